/- What this text proves: a map of ideal in memory, and the walks of its made, Epoch, Changes over this program. -/
import Derived.Test.YtbnfaeafkkagcaaIdCopied
import Derived.Test.YtbnfaeafkkagcaaAdNum
import Derived.Test.YtbnfaeafkkagcaaIdGone
namespace Go.Proofs.Ytbnfaeafkkagcaa
open Go.RowKit

/-- A map's cells. -/
def mapC (s h mi mk ch ar ca pg : Int) (pt : Option Addr) (nt ct : Nat) (pb : Option Addr) (nb cb : Nat) (ck : Int) : Array Value :=
  #[.int .i64 s, .int .i64 h, .int .i64 mi, .int .i64 mk, .int .i64 ch, .int .i64 ar, .int .i64 ca, .int .i64 pg, .slice pt nt ct, .slice pb nb cb, .int .i64 ck]

/-- A map in memory: its block, its times, its batches (as slices). -/
def IM (w : World) (base g : Nat) (s h mi mk ch ar ca pg : Int) (ts : List Int) (us : List Value) (ck : Int) (pt : Option Addr) (ct : Nat) (pb : Option Addr) (cb : Nat) : Prop :=
  w.heap[g]? = some (.cells (mapC s h mi mk ch ar ca pg pt ts.length ct pb us.length cb ck) 32 (0, 0)) ∧ w.ownsRow base 3 1 (.slice pt ts.length ct) ts.length (ts.map fun n => Value.int .i64 n) ∧ w.ownsRow base 23 1 (.slice pb us.length cb) us.length us ∧ base ≤ g

theorem map_cells {w : World} {g : Nat} {s h mi mk ch ar ca pg ck : Int} {pt pb : Option Addr} {nt ct nb cb : Nat} (H : w.heap[g]? = some (.cells (mapC s h mi mk ch ar ca pg pt nt ct pb nb cb ck) 32 (0, 0))) :
    w.cell? ⟨g, 0, none⟩ = some (.int .i64 s) ∧ w.cell? ⟨g, 1, none⟩ = some (.int .i64 h) ∧ w.cell? ⟨g, 2, none⟩ = some (.int .i64 mi) ∧ w.cell? ⟨g, 3, none⟩ = some (.int .i64 mk) ∧ w.cell? ⟨g, 4, none⟩ = some (.int .i64 ch) ∧ w.cell? ⟨g, 5, none⟩ = some (.int .i64 ar) ∧ w.cell? ⟨g, 6, none⟩ = some (.int .i64 ca) ∧ w.cell? ⟨g, 7, none⟩ = some (.int .i64 pg) ∧ w.cell? ⟨g, 8, none⟩ = some (.slice pt nt ct) ∧ w.cell? ⟨g, 9, none⟩ = some (.slice pb nb cb) ∧ w.cell? ⟨g, 10, none⟩ = some (.int .i64 ck) := by
  unfold mapC at H
  refine ⟨?_, ?_, ?_, ?_, ?_, ?_, ?_, ?_, ?_, ?_, ?_⟩ <;> (rw [cell_of_row _ _ _ _ _ _ H]; rfl)

theorem made_ok (g : Nat) (pt : Option Addr) (n ct : Nat) (w : World) (h : w.cell? ⟨g, 8, none⟩ = some (.slice pt n ct)) (hn : 0 < n) : Calls Try.prog 13 #[.pointer (some ⟨g, 0, none⟩)] w fun e w' => e = .returned (.bool true) ∧ w' = w := by
  have hn2 : (0 : Int) < (n : Int) := by omega
  go_enter Try.func13, Try.ntmps13
  go_wp2
  go_ret
  exact ⟨rfl, rfl⟩

theorem epoch_ok (g : Nat) (pt : Option Addr) (n ct : Nat) (w : World) (h : w.cell? ⟨g, 8, none⟩ = some (.slice pt n ct)) (hn : 0 < n) (hm : n ≤ 1000000) : Calls Try.prog 6 #[.pointer (some ⟨g, 0, none⟩)] w fun e w' => e = .returned (.int .i64 ((n : Int) - 1)) ∧ w' = w := by
  have hM := made_ok g pt n ct w h hn
  have hw : wrap64 ((n : Int) - 1) = (n : Int) - 1 := w64 _ (by omega) (by omega)
  go_enter Try.func6, Try.ntmps6
  go_wp2_with (go_at_call 13; refine hM.mono ?_; rintro e w1 ⟨rfl, hw⟩; have hw2 := hw.symm; clear hw; subst hw2)
  go_ret
  exact ⟨rfl, rfl⟩

/-- How long a slice is. -/
def lenS : Value → Nat
  | .slice _ n _ => n
  | _ => 0

theorem owns_cellB {w : World} {base : Nat} {b : Nat} {e : TypeId} {n c : Nat} {xs : List Value} (h : w.ownsRow base e 1 (.slice (some ⟨b, 0, none⟩) n c) n xs) (k : Nat) (x : Value) (hx : xs[k]? = some x) : w.cell? ⟨b, k, none⟩ = some x := by
  obtain ⟨h4, h5⟩ := h
  rcases h5 with ⟨e, _⟩ | ⟨g', cap, cur, e, hb, hg, hl, hm, hs, ht⟩
  · cases e
  · simp only [Value.slice.injEq, Option.some.injEq, Addr.mk.injEq, and_true, true_and] at e
    obtain ⟨rfl, rfl⟩ := e
    rw [cell_of_row _ _ _ _ _ _ hg]
    have hi : k < xs.length := (List.getElem?_eq_some_iff.1 hx).1
    rw [← ht, List.getElem?_take, if_pos (by omega)] at hx
    simpa using hx

theorem owns_addrB {w : World} {base : Nat} {p : Option Addr} {e : TypeId} {n c : Nat} {xs : List Value} (h : w.ownsRow base e 1 (.slice p n c) n xs) (hn : 0 < n) : ∃ b, p = some ⟨b, 0, none⟩ := by
  rcases h.2 with ⟨e, h0⟩ | ⟨g', cap, cur, e, _⟩
  · omega
  · simp only [Value.slice.injEq] at e
    exact ⟨g', e.1⟩

theorem sum_small (us : List Value) (hs : ∀ u ∈ us, ∃ p n c, u = Value.slice p n c ∧ n ≤ 100) : (us.map lenS).sum ≤ 100 * us.length := by
  induction us with
  | nil => simp
  | cons u us ih =>
    have h1 := ih (fun x hx => hs x (List.mem_cons_of_mem _ hx))
    obtain ⟨p, n, c, rfl, hn⟩ := hs u (List.mem_cons_self ..)
    simp only [List.map_cons, List.sum_cons, List.length_cons, lenS]
    omega

set_option maxRecDepth 100000 in
set_option maxHeartbeats 800000 in
theorem changes_ok (base g : Nat) (s h mi mk ch ar ca pg : Int) (ts : List Int) (us : List Value) (ck : Int) (pt : Option Addr) (ct : Nat) (pb : Option Addr) (cb : Nat) (w : World) (H : IM w base g s h mi mk ch ar ca pg ts us ck pt ct pb cb) (hn : 0 < ts.length) (hu : us.length ≤ 1000) (hs : ∀ u ∈ us, ∃ p n c, u = Value.slice p n c ∧ n ≤ 100) :
    Calls Try.prog 7 #[.pointer (some ⟨g, 0, none⟩)] w fun e w' => e = .returned (.int .i64 (((us.map lenS).sum : Nat) : Int)) ∧ w' = w := by
  obtain ⟨c0, c1, c2, c3, c4, c5, c6, c7, c8, c9, c10⟩ := map_cells H.1
  have hM := made_ok g pt ts.length ct w c8 hn
  have HO := H.2.2.1
  have HS := (show Hid _ from hs)
  clear H hs
  clear c0 c1 c2 c3 c4 c5 c6 c7 c8 c10
  go_enter Try.func7, Try.ntmps7
  go_wp2_with (go_at_call 13; refine hM.mono ?_; rintro e w1 ⟨rfl, hw⟩; have hw2 := hw.symm; clear hw; subst hw2)
  clear hM
  go_loop [3, 14] (fun v i => ∃ k : Nat, k ≤ us.length ∧ i = .int .i64 (k : Int) ∧ v = .int .i64 ((((us.take k).map lenS).sum : Nat) : Int)) (fun _ i => us.length - (intOf i).toNat)
  case atStart => exact ⟨0, Nat.zero_le _, rfl, by simp⟩
  case round =>
    obtain ⟨k, hk, rfl, rfl⟩ := hrel
    by_cases hlt : k < us.length
    · have hlt2 : (k : Int) < (us.length : Int) := by omega
      obtain ⟨b, rfl⟩ := owns_addrB HO (by omega)
      obtain ⟨u, hx⟩ : ∃ u, us[k]? = some u := ⟨_, List.getElem?_eq_getElem (by omega)⟩
      have hc := owns_cellB HO k u hx
      obtain ⟨p, n, c, rfl, hn'⟩ := HS.out u (List.mem_of_getElem? hx)
      have hsm := sum_small (us.take k) (fun x hx => HS.out x (List.mem_of_mem_take hx))
      have htk : (us.take k).length ≤ 1000 := by simp; omega
      have hst : ((us.take (k + 1)).map lenS).sum = ((us.take k).map lenS).sum + n := by rw [List.take_add_one, hx]; simp [lenS]
      have hq : wrap64 ((((us.take k).map lenS).sum : Int) + (n : Int)) = ((((us.take (k + 1)).map lenS).sum : Nat) : Int) := by rw [hst, w64 _ (by omega) (by omega)]; omega
      generalize ((us.take k).map lenS).sum = A at *
      obtain ⟨B, hBq⟩ : ∃ B, ((us.take (k + 1)).map lenS).sum = B := ⟨_, rfl⟩
      rw [hBq] at hq hst
      have HBq : Hid (((us.take (k + 1)).map lenS).sum = B) := hBq
      clear hBq hst
      clear hsm htk
      go_wp2
      go_round
      case rel => exact ⟨k + 1, by omega, by go_num, by rw [HBq.out, hq]⟩
      case measure => simp [intOf]; omega
    · obtain rfl : k = us.length := by omega
      have hnk : ¬ (us.length : Int) < (us.length : Int) := by omega
      rw [List.take_length]
      go_wp2
      go_ret
      exact ⟨rfl, rfl⟩

end Go.Proofs.Ytbnfaeafkkagcaa
