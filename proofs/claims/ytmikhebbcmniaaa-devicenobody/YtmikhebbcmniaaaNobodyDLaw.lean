/- What this text proves: the walk of annalslaw07.DeviceNobody over this program: it answers true. -/
import Derived.Test.YtmikhebbcmniaaaDMiss
import Derived.Test.YtmikhebbcmniaaaDAwake
namespace Go.Proofs.Ytmikhebbcmniaaa
open Go.RowKit Go.Maps

set_option maxRecDepth 100000 in
set_option maxHeartbeats 3200000 in
theorem nobodyWalk (op i : Int) (u : Value) (l : List UInt8) (w : World) (hu : HB w u l) :
    Calls Try.prog 7 #[.agg #[.int .i64 op, .int .i64 i, u]] w fun e w' => e = .returned (.bool true) ∧ Below w.heap.size w w' := by
  obtain ⟨pu, cu, rfl⟩ := hu.shape
  obtain ⟨W0, hW0⟩ : ∃ W0, W0 = (((w.alloc (.cells #[.int .i64 op, .int .i64 i, .slice pu l.length cu] 33)).alloc (.cells #[.slice none 0 0, .map none, .int .i64 0, .bool false, .int .i64 0] 65)).alloc (.cells #[.pointer none, .pointer (some ⟨w.heap.size + 1, 0, none⟩)] 23)) := ⟨_, rfl⟩
  have hsz : W0.heap.size = w.heap.size + 3 := by rw [hW0]; simp
  have hb0 : Below w.heap.size w W0 := by rw [hW0]; exact ((((Below.refl _ w).alloc (Nat.le_refl _) _).alloc (by simp) _).alloc (by simp; omega) _)
  have s0 : W0.heap[w.heap.size]? = some (.cells #[.int .i64 op, .int .i64 i, .slice pu l.length cu] 33 (0, 0)) := by
    rw [hW0, Below.heap_alloc _ _ _ (by simp; omega), Below.heap_alloc _ _ _ (by simp)]
    exact heap_alloc_new w _
  have s1 : W0.heap[w.heap.size + 1]? = some (.cells #[.slice none 0 0, .map none, .int .i64 0, .bool false, .int .i64 0] 65 (0, 0)) := by
    rw [hW0, Below.heap_alloc _ _ _ (by simp)]
    have := heap_alloc_new (w.alloc (.cells #[.int .i64 op, .int .i64 i, .slice pu l.length cu] 33)) (.cells #[.slice none 0 0, .map none, .int .i64 0, .bool false, .int .i64 0] 65)
    simpa using this
  have s2 : W0.heap[w.heap.size + 1 + 1]? = some (.cells #[.pointer none, .pointer (some ⟨w.heap.size + 1, 0, none⟩)] 23 (0, 0)) := by
    rw [hW0]
    have := heap_alloc_new ((w.alloc (.cells #[.int .i64 op, .int .i64 i, .slice pu l.length cu] 33)).alloc (.cells #[.slice none 0 0, .map none, .int .i64 0, .bool false, .int .i64 0] 65)) (.cells #[.pointer none, .pointer (some ⟨w.heap.size + 1, 0, none⟩)] 23)
    simpa using this
  have hcell : ∀ W, Below W0.heap.size W0 W → W.cell? ⟨w.heap.size, 0, none⟩ = some (.int .i64 op) ∧ W.cell? ⟨w.heap.size, 1, none⟩ = some (.int .i64 i) ∧ W.cell? ⟨w.heap.size, 2, none⟩ = some (.slice pu l.length cu) ∧ W.cell? ⟨w.heap.size + 1, 0, none⟩ = some (.slice none 0 0) ∧ W.cell? ⟨w.heap.size + 1 + 1, 0, none⟩ = some (.pointer none) ∧ W.cell? ⟨w.heap.size + 1 + 1, 1, none⟩ = some (.pointer (some ⟨w.heap.size + 1, 0, none⟩)) := by
    intro W hb
    refine ⟨cell_later hb ?_, cell_later hb ?_, cell_later hb ?_, cell_later hb ?_, cell_later hb ?_, cell_later hb ?_⟩
    · rw [cell_of_row _ _ 0 _ _ _ s0]; rfl
    · rw [cell_of_row _ _ 1 _ _ _ s0]; rfl
    · rw [cell_of_row _ _ 2 _ _ _ s0]; rfl
    · rw [cell_of_row _ _ 0 _ _ _ s1]; rfl
    · rw [cell_of_row _ _ 0 _ _ _ s2]; rfl
    · rw [cell_of_row _ _ 1 _ _ _ s2]; rfl
  have hG0 : ∀ W, Gone none W := fun W => miss_nil W
  have hG1 : ∀ W, Below W0.heap.size W0 W → Gone (some ⟨w.heap.size + 1, 0, none⟩) W := fun W hb => miss_raw _ W (hcell W hb).2.2.2.1
  have hHB : ∀ W, Below W0.heap.size W0 W → HB W (.slice pu l.length cu) l := fun W hb => hu.later (hb0.trans (hb.mono (by omega)))
  clear s0 s1 s2
  go_enter Try.func7, Try.ntmps7
  go_wp2
  rw [← hW0]
  clear hW0
  go_loopw [11] (fun j wr => ∃ k : Nat, k ≤ 2 ∧ j = .int .i64 k ∧ Below W0.heap.size W0 wr) (fun j _ => 2 - (intOf j).toNat)
  case atStart => exact ⟨0, by omega, rfl, Below.refl _ _⟩
  case round =>
    obtain ⟨k, hk, rfl, hbw⟩ := hrel
    obtain ⟨a0, a1, a2, a3, a4, a5⟩ := hcell wr hbw
    have hk3 : k = 0 ∨ k = 1 ∨ k = 2 := by omega
    rcases hk3 with rfl | rfl | rfl
    · have hRd := read_gone none i wr (hG0 wr)
      go_wp2_with (go_at_call 17; refine hRd.mono ?_; rintro e w4 ⟨rfl, rfl⟩)
      have hbw' := hbw
      clear hRd
      go_region_held3 (fun w' => w'.cell? ⟨w.heap.size, 0, none⟩ = some (.int .i64 op) ∧ w'.cell? ⟨w.heap.size, 1, none⟩ = some (.int .i64 i) ∧ w'.cell? ⟨w.heap.size, 2, none⟩ = some (.slice pu l.length cu)) (first | exact ⟨a0, a1, a2⟩ | exact ⟨b0, b1, b2⟩) (first
        | (go_at_call 22; refine (full_any _ op i _ l (hHB _ (by repeat (first | exact hbw' | refine Below.drew ?_)))).mono ?_; rintro e w5 ⟨gg, rfl, hg5, hge5, hb5⟩; have hb5' : Below W0.heap.size W0 w5 := hbw'.trans (by first | exact hb5.mono hbw'.size | exact ((Below.refl _ _).drew).trans (hb5.mono (by simpa using hbw'.size)) | exact ((Below.refl _ _).drew.drew).trans (hb5.mono (by simpa using hbw'.size))); obtain ⟨b0, b1, b2, _, _, _⟩ := hcell w5 hb5')
        | (go_at_call 23; refine (write_gone _ i _ _ _ _ (hG0 _)).mono ?_; rintro e w6 ⟨rfl, rfl⟩)
        | (go_at_call 24; refine (sync_gone _ _ (hG0 _)).mono ?_; rintro e w6 ⟨rfl, rfl⟩)
        | (go_at_call 32; refine (fuse_gone _ i _ (hG0 _)).mono ?_; rintro e w6 ⟨rfl, rfl⟩)
        | (go_at_call 25; refine (crash_gone _ _ _ _ _ (hG0 _)).mono ?_; rintro e w6 ⟨rfl, rfl⟩)
        | (go_at_call 33; refine (dead_gone _ _ (hG0 _)).mono ?_; rintro e w6 ⟨rfl, rfl⟩)
        | (go_at_call 31; refine (waits_gone _ _ (hG0 _)).mono ?_; rintro e w6 ⟨rfl, rfl⟩)
        | (go_at_call 16; refine (image_gone _ _ (hG0 _)).mono ?_; rintro e w6 ⟨rfl, rfl⟩)
        | (go_at_call 34; refine (changes_gone _ _ (hG0 _)).mono ?_; rintro e w6 ⟨rfl, rfl⟩)
        | (go_at_call 19; refine (copy_gone _ _ (hG0 _)).mono ?_; rintro e w6 ⟨rfl, rfl⟩))
      all_goals go_wp2
      all_goals go_roundw
      all_goals (first | (first | exact ⟨1, by omega, by go_num, by first | assumption | exact Below.drew (by assumption)⟩ | ((repeat apply Exists.intro); exact ⟨⟨1, by omega, by go_num, by first | assumption | exact Below.drew (by assumption)⟩, rfl⟩)) | (simp [intOf]; done) | (simp [intOf]; omega))
    · have hRd := read_gone (some ⟨w.heap.size + 1, 0, none⟩) i wr (hG1 wr hbw)
      go_wp2_with (go_at_call 17; refine hRd.mono ?_; rintro e w4 ⟨rfl, rfl⟩)
      have hbw' := hbw
      clear hRd
      go_region_held3 (fun w' => w'.cell? ⟨w.heap.size, 0, none⟩ = some (.int .i64 op) ∧ w'.cell? ⟨w.heap.size, 1, none⟩ = some (.int .i64 i) ∧ w'.cell? ⟨w.heap.size, 2, none⟩ = some (.slice pu l.length cu)) (first | exact ⟨a0, a1, a2⟩ | exact ⟨b0, b1, b2⟩) (first
        | (go_at_call 22; refine (full_any _ op i _ l (hHB _ (by repeat (first | exact hbw' | refine Below.drew ?_)))).mono ?_; rintro e w5 ⟨gg, rfl, hg5, hge5, hb5⟩; have hb5' : Below W0.heap.size W0 w5 := hbw'.trans (by first | exact hb5.mono hbw'.size | exact ((Below.refl _ _).drew).trans (hb5.mono (by simpa using hbw'.size)) | exact ((Below.refl _ _).drew.drew).trans (hb5.mono (by simpa using hbw'.size))); obtain ⟨b0, b1, b2, _, _, _⟩ := hcell w5 hb5')
        | (go_at_call 23; refine (write_gone _ i _ _ _ _ (hG1 _ (by repeat (first | exact hb5' | exact hbw' | refine Below.drew ?_)))).mono ?_; rintro e w6 ⟨rfl, rfl⟩)
        | (go_at_call 24; refine (sync_gone _ _ (hG1 _ (by repeat (first | exact hb5' | exact hbw' | refine Below.drew ?_)))).mono ?_; rintro e w6 ⟨rfl, rfl⟩)
        | (go_at_call 32; refine (fuse_gone _ i _ (hG1 _ (by repeat (first | exact hb5' | exact hbw' | refine Below.drew ?_)))).mono ?_; rintro e w6 ⟨rfl, rfl⟩)
        | (go_at_call 25; refine (crash_gone _ _ _ _ _ (hG1 _ (by repeat (first | exact hb5' | exact hbw' | refine Below.drew ?_)))).mono ?_; rintro e w6 ⟨rfl, rfl⟩)
        | (go_at_call 33; refine (dead_gone _ _ (hG1 _ (by repeat (first | exact hb5' | exact hbw' | refine Below.drew ?_)))).mono ?_; rintro e w6 ⟨rfl, rfl⟩)
        | (go_at_call 31; refine (waits_gone _ _ (hG1 _ (by repeat (first | exact hb5' | exact hbw' | refine Below.drew ?_)))).mono ?_; rintro e w6 ⟨rfl, rfl⟩)
        | (go_at_call 16; refine (image_gone _ _ (hG1 _ (by repeat (first | exact hb5' | exact hbw' | refine Below.drew ?_)))).mono ?_; rintro e w6 ⟨rfl, rfl⟩)
        | (go_at_call 34; refine (changes_gone _ _ (hG1 _ (by repeat (first | exact hb5' | exact hbw' | refine Below.drew ?_)))).mono ?_; rintro e w6 ⟨rfl, rfl⟩)
        | (go_at_call 19; refine (copy_gone _ _ (hG1 _ (by repeat (first | exact hb5' | exact hbw' | refine Below.drew ?_)))).mono ?_; rintro e w6 ⟨rfl, rfl⟩))
      all_goals go_wp2
      all_goals go_roundw
      all_goals (first | (first | exact ⟨2, by omega, by go_num, by first | assumption | exact Below.drew (by assumption)⟩ | ((repeat apply Exists.intro); exact ⟨⟨2, by omega, by go_num, by first | assumption | exact Below.drew (by assumption)⟩, rfl⟩)) | (simp [intOf]; done) | (simp [intOf]; omega))
    · have hA := awake_any wr
      go_wp2_with (go_at_call 10; refine hA.mono ?_; rintro e w4 ⟨rfl, hb4⟩)
      go_ret
      exact ⟨rfl, hb0.trans ((hbw.mono (by omega)).trans (hb4.mono (Nat.le_trans (by omega) hbw.size)))⟩

end Go.Proofs.Ytmikhebbcmniaaa
