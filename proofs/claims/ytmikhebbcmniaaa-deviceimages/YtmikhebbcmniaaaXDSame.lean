/- What this text proves: the walks of annalsplain.Same (two devices that are the same), of Spoil, over this program. -/
import Derived.Test.YtmikhebbcmniaaaXDImage
import Derived.Test.YtmikhebbcmniaaaSame
import Derived.Test.YtmikhebbcmniaaaIntsEq
namespace Go.Proofs.Ytmikhebbcmniaaa
open Go.RowKit

theorem RR.pa {W : World} {g n c : Nat} {sig : Nat → List UInt8} (h : RR W g n sig) (hc : n ≤ c ∧ c ≤ maxLen) : PA W (.slice (some ⟨g, 0, none⟩) n c) ((List.range n).map sig) := by
  obtain ⟨cs, h1, h2, h3⟩ := h
  have hlen : (cs.toList.take n).length = n := by simp; omega
  refine ⟨_, c, cs.toList.take n, by simp, by simpa using hc.1, hc.2, (fun h => by cases h), by simp; omega, fun _ => ⟨g, 0, rfl, fun i x hx => ?_⟩, fun i x l hx hl => ?_⟩
  · rw [Nat.zero_add, cell_of_row W g i cs 31 (0, 0) h1]
    have hi := (List.getElem?_eq_some_iff.1 hx).1
    rw [List.getElem?_take, if_pos (by omega)] at hx
    simpa using hx
  · have hi := (List.getElem?_eq_some_iff.1 hx).1
    rw [hlen] at hi
    obtain ⟨u, q1, q2⟩ := h3 i hi
    rw [List.getElem?_take, if_pos hi] at hx
    have e1 : x = u := by
      have : cs[i]? = some x := by simpa using hx
      rw [q1] at this
      exact (Option.some.inj this).symm
    have e2 : l = sig i := by
      rw [List.getElem?_map, List.getElem?_range hi] at hl
      simpa using hl.symm
    rw [e1, e2]
    exact q2.1

theorem i_int8 : (Try.prog.info? 3).map (fun i => (i.zero, i.size, i.bytes)) = some (some (.int .i64 0), 1, 8) := by kernel_rfl

def waitsTo (s : DevS) (k : Nat) : List Nat := (List.range k).filter fun i => (s.old i).isSome
theorem waitsTo_all (s : DevS) : waitsTo s s.now.length = s.waits := rfl
theorem waitsTo_succ (s : DevS) (k : Nat) : waitsTo s (k + 1) = waitsTo s k ++ (if waitF s k then [k] else []) := by
  unfold waitsTo waitF
  rw [List.range_succ, List.filter_append]
  cases h : (s.old k).isSome <;> simp [h]
theorem waitsTo_len (s : DevS) (k : Nat) : (waitsTo s k).length ≤ k := by
  have := List.length_filter_le (fun j => (s.old j).isSome) (List.range k)
  rw [List.length_range] at this
  exact this

set_option maxRecDepth 10000 in
set_option maxHeartbeats 3200000 in
theorem dsame_any {w : World} {bd bn bm bx bl bk bw cl ck cw : Nat} {s : DevS} (hd : Dev w bd bn bm s) (hx : XDev w bx bl bk bw cl ck cw s) :
    Calls Try.prog 12 #[.pointer (some ⟨bd, 0, none⟩), .pointer (some ⟨bx, 0, none⟩)] w fun e w' => e = .returned (.bool true) ∧ Below w.heap.size w w' := by
  have hm := hd.ok.most
  obtain ⟨i0, hi0, hz0, hz1, hz2⟩ := info_parts i_int8
  obtain ⟨d0, d1, d2, d3, d4, d5⟩ := hx.g.db.cells
  have hcell : ∀ wr, Below w.heap.size w wr → ∀ k, k < s.now.length → wr.cell? ⟨bw, k, none⟩ = some (.bool (waitF s k)) := fun wr hb k hk => cell_later hb (hx.g.w.cell k hk)
  have hfin : ∀ wr v, Below w.heap.size w wr → IA wr v s.waits → Dev wr bd bn bm s ∧ XDev wr bx bl bk bw cl ck cw s := fun wr v hb _ => ⟨hd.later hb, hx.later hb⟩
  go_enter Try.func12, Try.ntmps12
  go_wp2
  go_loopw [13, 5] (fun i v wr => ∃ k : Nat, k ≤ s.now.length ∧ i = .int .i64 k ∧ wr.ownsRow w.heap.size 3 1 v (waitsTo s k).length (ics (waitsTo s k)) ∧ Below w.heap.size w wr) (fun i _ _ => s.now.length - (RowKit.intOf i).toNat)
  case atStart => exact ⟨0, Nat.zero_le _, rfl, World.ownsRow_nil _ _ _ _, Below.refl _ _⟩
  case round =>
    obtain ⟨k, hk, rfl, how, hbe⟩ := hrel
    by_cases hlt : k < s.now.length
    · have hlt2 : (k : Int) < (s.now.length : Int) := by omega
      have hc := hcell wr hbe k hlt
      have hsu := waitsTo_succ s k
      have hwl := waitsTo_len s k
      cases hA : waitF s k
      · rw [hA] at hc hsu
        simp only [Bool.false_eq_true, if_false, List.append_nil] at hsu
        have how' : wr.ownsRow w.heap.size 3 1 u5 (waitsTo s (k + 1)).length (ics (waitsTo s (k + 1))) := by rw [hsu]; exact how
        clear hcell hfin how hsu hA hd hx
        go_wp2
        go_roundw
        case rel => first | exact ⟨k + 1, by omega, by go_num, how', hbe⟩ | ((repeat apply Exists.intro); exact ⟨⟨k + 1, by omega, by go_num, how', hbe⟩, rfl⟩)
        case measure => simp [RowKit.intOf]; omega
      · rw [hA] at hc hsu
        simp only [if_true] at hsu
        have bA := (Below.refl wr.heap.size wr).alloc (Nat.le_refl _) (.cells #[.int .i64 (k : Int)] 3)
        have gA := heap_alloc_new wr (.cells #[.int .i64 (k : Int)] 3)
        have oA := owns_later how bA
        have hsz : w.heap.size ≤ (wr.alloc (.cells #[.int .i64 (k : Int)] 3)).heap.size := Nat.le_trans hbe.size bA.size
        have b2 : Below w.heap.size w (wr.alloc (.cells #[.int .i64 (k : Int)] 3)) := hbe.trans (bA.mono hbe.size)
        have hfi : ∀ (v' : Value) (w3 : World), w3.ownsRow w.heap.size 3 1 v' ((waitsTo s k).length + 1) (ics (waitsTo s k) ++ [.int .i64 (k : Int)]) → w3.ownsRow w.heap.size 3 1 v' (waitsTo s (k + 1)).length (ics (waitsTo s (k + 1))) := by
          intro v' w3 h3
          rw [hsu, List.length_append]
          simpa [ics, ic] using h3
        have hlw : (waitsTo s k).length ≤ 16384 := by omega
        generalize ics (waitsTo s k) = IC at *
        generalize (waitsTo s k).length = WL at *
        clear hcell hfin how hsu hA hd hx hwl
        go_wp2_with (first
          | (at_builtin; refine wpList_append_own _ rfl _ _ 59 rfl w.heap.size 3 i0 (.int .i64 0) 1 8 Try.underlying59 hi0 hz0 hz1 hz2 rfl (by decide) _ _ _ rfl oA ⟨wr.heap.size, 0, none⟩ 1 1 [.int .i64 (k : Int)] rfl rfl (World.news_of_block gA) (by simp [Value.oneCell']) (by unfold maxLen; omega) (by omega) hsz ?_; intro v' w3 ow gr _; obtain ⟨p3, c3, rfl⟩ := owns_shape ow))
        have ow3 := hfi _ _ ow
        have b3 : Below w.heap.size w w3 := b2.grown gr hsz (fun q hq => (oA.lt q hq).1)
        clear hfi ow gr oA gA bA b2 hsz
        go_wp2
        go_roundw
        case rel => first | exact ⟨k + 1, by omega, by go_num, ow3, b3⟩ | ((repeat apply Exists.intro); exact ⟨⟨k + 1, by omega, by go_num, ow3, b3⟩, rfl⟩)
        case measure => simp [RowKit.intOf]; omega
    · obtain rfl : k = s.now.length := by omega
      rw [waitsTo_all] at how
      have hia := IA.of_owns how
      obtain ⟨pw, cwv, rfl⟩ := hia.shape
      obtain ⟨hd', hx'⟩ := hfin wr _ hbe hia
      clear hcell hfin how hd hx d0 d1 d2 d3 d4 d5
      have bD : Below wr.heap.size wr wr.drew := (Below.refl _ _).drew
      have hd0 := hd'.later bD
      have hx0 := hx'.later bD
      have hi0' := hia.later bD
      have hrowl := fun j (hj : j < s.now.length) => (nowF_row hd'.ok j hj).2
      have hImg := image_any hd0
      obtain ⟨d0, d1, d2, d3, d4, d5⟩ := hx0.g.db.cells
      have hseq : ∀ wI g, IMG wI wr.drew.heap.size g s.now.length s.now.length (nowF s) → Below wr.drew.heap.size wr.drew wI → Calls Try.prog 29 #[.slice (some ⟨g, 0, none⟩) s.now.length s.now.length, .slice (some ⟨bl, 0, none⟩) s.now.length cl] wI fun e w' => e = .returned (.bool true) ∧ w' = wI := by
        intro wI g hI bI
        exact same_t _ _ _ _ wI (hI.pa hrowl) ((hx0.later bI).g.l.pa hx0.g.cp) rfl
      have hdd : ∀ wI, Below wr.drew.heap.size wr.drew wI → Dev wI bd bn bm s := fun wI bI => hd0.later bI
      clear hd' hx' hrowl hia hx0
      go_wp2
      go_region_held3 (fun W => W.cell? ⟨bx, 0, none⟩ = some (.slice (some ⟨bl, 0, none⟩) s.now.length cl) ∧ W.cell? ⟨bx, 4, none⟩ = some (.bool s.dead) ∧ W.cell? ⟨bx, 5, none⟩ = some (.int .i64 (s.ch : Int))) (first | with_reducible exact ⟨d0, d4, d5⟩ | with_reducible exact ⟨g0, g4, g5⟩ | with_reducible exact ⟨k0, k4, k5⟩ | with_reducible exact ⟨l0, l4, l5⟩ | fail) (first
        | (go_at_call 16; refine hImg.mono ?_; rintro e wI ⟨g, rfl, hI, bI⟩; have g0 := cell_later bI d0; have g4 := cell_later bI d4; have g5 := cell_later bI d5; have hdI := hdd wI bI; have hS := hseq wI g hI bI; have hDe := dead_any hdI; have hCh := changes_any hdI; have hWa := waits_any hdI)
        | (go_at_call 29; refine hS.mono ?_; rintro e w6 ⟨rfl, hw6⟩; have hw7 := hw6.symm; clear hw6; subst hw7)
        | (go_at_call 33; refine hDe.mono ?_; rintro e w6 ⟨rfl, hw6⟩; have hw7 := hw6.symm; clear hw6; subst hw7)
        | (go_at_call 34; refine hCh.mono ?_; rintro e w6 ⟨rfl, hw6⟩; have hw7 := hw6.symm; clear hw6; subst hw7)
        | (go_at_call 31; refine hWa.mono ?_; rintro e wW ⟨vW, rfl, hIW, _, bW⟩; obtain ⟨pW, cW, rfl⟩ := hIW.shape; have k0 := cell_later bW g0; have k4 := cell_later bW g4; have k5 := cell_later bW g5; have hEq := slequal_same _ _ _ wW hIW ((hi0'.later bI).later bW))
        | (go_at_call 30; refine hEq.mono ?_; rintro e wE ⟨rfl, bE⟩; have l0 := cell_later bE k0; have l4 := cell_later bE k4; have l5 := cell_later bE k5))
      have s1 : w.heap.size ≤ wr.heap.size := hbe.size
      have s2 : wr.heap.size ≤ wI.heap.size := bI.size
      have s3 : wI.heap.size ≤ wW.heap.size := bW.size
      have bF : Below w.heap.size w wE := (((hbe.trans (bD.mono s1)).trans (bI.mono s1)).trans (bW.mono (Nat.le_trans s1 s2))).trans (bE.mono (Nat.le_trans (Nat.le_trans s1 s2) s3))
      clear hImg hseq hdd hd0 hi0' hI bI hdI hS hDe hCh hWa hIW bW hEq bE
      go_wp2
      go_ret
      exact ⟨rfl, bF⟩

end Go.Proofs.Ytmikhebbcmniaaa
