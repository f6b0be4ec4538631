/- What this text proves: the walks of the document's device's Read over this program; both Reads tell the same. -/
import Derived.Test.YtmikhebbcmniaaaXDCopy3
namespace Go.Proofs.Ytmikhebbcmniaaa
open Go.RowKit

set_option maxHeartbeats 400000 in
theorem rread_arg {w : World} {bx bl bk bw cl ck cw : Nat} {s : DevS} (h : XDev w bx bl bk bw cl ck cw s) (i : Int) (hbad : ¬ (0 ≤ i ∧ i < (s.now.length : Int))) : Calls Try.prog 18 #[.pointer (some ⟨bx, 0, none⟩), .int .i64 i] w fun e w' => e = .returned (.tuple #[.slice none 0 0, .int .i64 1]) ∧ w' = w := by
  have c0 := h.g.db.cells.1
  have hq := h.ok.most
  generalize s.now.length = n at *
  clear h
  by_cases h0 : i < 0
  · go_enter Try.func18, Try.ntmps18
    go_wp2
    go_ret2
    exact ⟨rfl, rfl⟩
  · have h1 : (n : Int) ≤ i := by omega
    clear hbad
    go_enter Try.func18, Try.ntmps18
    go_wp2
    go_ret2
    exact ⟨rfl, rfl⟩

set_option maxHeartbeats 400000 in
theorem rread_dead {w : World} {bx bl bk bw cl ck cw : Nat} {s : DevS} (h : XDev w bx bl bk bw cl ck cw s) (i : Int) (h0 : 0 ≤ i) (h1 : i < (s.now.length : Int)) (hd : s.dead = true) : Calls Try.prog 18 #[.pointer (some ⟨bx, 0, none⟩), .int .i64 i] w fun e w' => e = .returned (.tuple #[.slice none 0 0, .int .i64 70]) ∧ w' = w := by
  obtain ⟨c0, _, _, _, c4, _⟩ := h.g.db.cells
  have hq := h.ok.most
  rw [hd] at c4
  generalize s.now.length = n at *
  clear h hd
  go_enter Try.func18, Try.ntmps18
  go_wp2
  go_ret2
  exact ⟨rfl, rfl⟩

set_option maxHeartbeats 800000 in
theorem rread_any {w : World} {bx bl bk bw cl ck cw : Nat} {s : DevS} (h : XDev w bx bl bk bw cl ck cw s) (i : Nat) (h1 : i < s.now.length) (hd : s.dead = false) : Calls Try.prog 18 #[.pointer (some ⟨bx, 0, none⟩), .int .i64 (i : Int)] w fun e w' => ∃ v, e = .returned (.tuple #[v, .int .i64 0]) ∧ HB w' v (nowF s i) ∧ Below w.heap.size w w' := by
  obtain ⟨c0, _, _, _, c4, _⟩ := h.g.db.cells
  have hq := h.ok.most
  rw [hd] at c4
  obtain ⟨u, hu, hx⟩ := h.g.l.cell i h1
  obtain ⟨p, c, rfl⟩ := hx.1.shape
  have hl := (nowF_row h.ok i h1).2
  rw [hl] at hu hx
  have bA := (Below.refl w.heap.size w).alloc (Nat.le_refl _) (.cells #[] 5)
  have hxA := hx.1.later bA
  have hlt : (i : Int) < (s.now.length : Int) := by omega
  have e0 := cell_later bA c0
  have e1 := cell_later bA hu
  have how := World.ownsRow_made (base := w.heap.size) (e := 5) (size := 1) w #[] 0 (Nat.le_refl _) (Nat.zero_le _) rfl
  have hfin : ∀ v' w', w'.ownsRow w.heap.size 5 1 v' (0 + 64) ([] ++ bcs (nowF s i)) → (w.alloc (.cells #[] 5)).grownBy w' (some w.heap.size) → HB w' v' (nowF s i) ∧ Below w.heap.size w w' := by
    intro v' w' ho hg
    exact ⟨HB.of_owns (n := 64) (by simpa using ho), bA.grown hg (by simp) (fun k e => by cases e; exact Nat.le_refl _)⟩
  generalize s.now.length = n at *
  generalize nowF s i = L at *
  clear h hd hx bA hl
  go_enter Try.func18, Try.ntmps18
  go_wp2_with (first
    | (at_builtin; refine wpList_append_hb rfl _ _ 31 rfl w.heap.size 5 Try.underlying31 i_u8 _ 0 [] rfl how p 64 c L rfl hxA (by omega) (by simp) ?_; intro v' w3 ow gr; obtain ⟨p3, c3, rfl⟩ := owns_shape ow; obtain ⟨r1, r2⟩ := hfin _ w3 ow gr))
  clear hfin ow gr how
  go_wp2
  go_ret2
  exact ⟨_, rfl, r1, r2⟩

theorem reads_two2 {s : DevS} (hok : s.Ok) (i : Int) : ∃ (E : Int) (l : List UInt8),
    (∀ (w : World) (bd bn bm : Nat), Dev w bd bn bm s → Calls Try.prog 17 #[.pointer (some ⟨bd, 0, none⟩), .int .i64 i] w fun e w' => ∃ v, e = .returned (.tuple #[v, .int .i64 E]) ∧ HB w' v l ∧ Below w.heap.size w w') ∧
    (∀ (w : World) (bx bl bk bw cl ck cw : Nat), XDev w bx bl bk bw cl ck cw s → Calls Try.prog 18 #[.pointer (some ⟨bx, 0, none⟩), .int .i64 i] w fun e w' => ∃ v, e = .returned (.tuple #[v, .int .i64 E]) ∧ HB w' v l ∧ Below w.heap.size w w') := by
  have hnil : ∀ W : World, HB W (.slice none 0 0) [] := fun W => HB.empty W none 0 (Nat.zero_le _) (fun _ => rfl)
  by_cases hin : 0 ≤ i ∧ i < (s.now.length : Int)
  · obtain ⟨j, rfl⟩ : ∃ j : Nat, i = (j : Int) := ⟨i.toNat, by omega⟩
    have hj : j < s.now.length := by omega
    cases hd : s.dead
    · obtain ⟨e1, e2⟩ := nowF_row hok j hj
      refine ⟨0, nowF s j, fun w bd bn bm h => ?_, fun w bx bl bk bw cl ck cw h => rread_any h j hj hd⟩
      refine (read_any h j (nowF s j) e1 hd).mono ?_
      rintro e w' ⟨rfl, rfl⟩
      have := HB.block (t := 76) (l := nowF s j) (heap_alloc_new w (.cells (bcs (nowF s j)).toArray 76)) (by rw [e2]; unfold maxLen; omega)
      rw [e2] at this
      exact ⟨_, rfl, this, (Below.refl _ _).alloc (Nat.le_refl _) _⟩
    · refine ⟨70, [], fun w bd bn bm h => ?_, fun w bx bl bk bw cl ck cw h => ?_⟩
      · refine (read_dead h (j : Int) hin hd).mono ?_
        rintro e w' ⟨rfl, rfl⟩
        exact ⟨_, rfl, hnil _, Below.refl _ _⟩
      · refine (rread_dead h (j : Int) hin.1 hin.2 hd).mono ?_
        rintro e w' ⟨rfl, rfl⟩
        exact ⟨_, rfl, hnil _, Below.refl _ _⟩
  · refine ⟨1, [], fun w bd bn bm h => ?_, fun w bx bl bk bw cl ck cw h => ?_⟩
    · refine (read_arg h i hin).mono ?_
      rintro e w' ⟨rfl, rfl⟩
      exact ⟨_, rfl, hnil _, Below.refl _ _⟩
    · refine (rread_arg h i hin).mono ?_
      rintro e w' ⟨rfl, rfl⟩
      exact ⟨_, rfl, hnil _, Below.refl _ _⟩

end Go.Proofs.Ytmikhebbcmniaaa
