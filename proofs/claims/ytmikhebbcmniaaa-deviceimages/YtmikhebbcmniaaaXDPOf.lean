/- What this text proves: the walk of device.Of over this program: a device of an image, or the error. -/
import Derived.Test.YtmikhebbcmniaaaXDOf
namespace Go.Proofs.Ytmikhebbcmniaaa
open Go.RowKit

/-- The sectors as far as they are laid. -/
def laidTo (ls : List (List UInt8)) (k : Nat) : List (List UInt8) := ls.take k ++ List.replicate (ls.length - k) nulls
theorem laidTo_len (ls : List (List UInt8)) (k : Nat) (hk : k ≤ ls.length) : (laidTo ls k).length = ls.length := by simp [laidTo]; omega
theorem laidTo_set (ls : List (List UInt8)) (k : Nat) (l : List UInt8) (hl : ls[k]? = some l) : (laidTo ls k).set k l = laidTo ls (k + 1) := by
  have hk : k < ls.length := (List.getElem?_eq_some_iff.1 hl).1
  unfold laidTo
  have hlen : (ls.take k).length = k := by simp; omega
  rw [List.set_append_right _ _ (by omega), hlen, Nat.sub_self, List.take_add_one, hl]
  have e : List.replicate (ls.length - k) nulls = nulls :: List.replicate (ls.length - (k + 1)) nulls := by
    rw [← List.replicate_succ]
    congr 1
    omega
  rw [e]
  simp
theorem laidTo_rows (ls : List (List UInt8)) (k : Nat) (h : ∀ r ∈ ls.take k, r.length = 64) : ∀ r ∈ laidTo ls k, r.length = 64 := by
  intro r hr
  rcases List.mem_append.1 hr with hr | hr
  · exact h r hr
  · rw [(List.mem_replicate.1 hr).2]; exact nulls_len

set_option maxRecDepth 100000 in
set_option maxHeartbeats 3200000 in
theorem of_any (v : Value) (ls : List (List UInt8)) (w : World) (h : PA w v ls) :
    Calls Try.prog 13 #[v] w fun e w' => Below w.heap.size w w' ∧ ((goodImg ls ∧ ∃ bd bn bm, e = .returned (.tuple #[.pointer (some ⟨bd, 0, none⟩), .int .i64 0]) ∧ Dev w' bd bn bm (DevS.made ls) ∧ w.heap.size ≤ bd ∧ w.heap.size ≤ bn ∧ w.heap.size ≤ bm) ∨ (¬ goodImg ls ∧ e = .returned (.tuple #[.pointer none, .int .i64 1]))) := by
  obtain ⟨pv, cv, rfl⟩ := h.shape
  have hml := h.len.2
  unfold maxLen at hml
  have hcan := can_any (ls.length : Int) w
  by_cases hsz : 1 ≤ ls.length ∧ ls.length ≤ 16384
  · rw [decide_eq_true (by omega)] at hcan
    obtain ⟨i0, hi, hz0, hz1, hz2⟩ := info_parts i_secb
    obtain ⟨Zc, hZc⟩ : ∃ Zc, Zc = (bcs nulls).toArray := ⟨_, rfl⟩
    have hz0' : i0.zero = some (.agg Zc) := by rw [hZc]; exact hz0
    have hby : i0.bytes * ls.length ≤ 281474976710656 := by rw [hz2]; omega
    have hfirst : ∀ (w2 : World) (g : Nat), w2.ownsRow w.heap.size 76 64 (.slice (some ⟨g, 0, none⟩) ls.length ls.length) ls.length (madeCells Zc (ls.length * 64)).toList → SR w2 g (laidTo ls 0) := fun w2 g ho => by
      have := made_secs hZc ho
      simpa [laidTo] using this
    have hu := Try.underlying76
    clear hz0 hZc
    go_enter Try.func13, Try.ntmps13
    go_wp2_with (first
      | (go_at_call 35; refine hcan.mono ?_; rintro e w1 ⟨rfl, hw⟩; have hw2 := hw.symm; clear hw; subst hw2)
      | (at_make; refine wpList_make_full _ rfl _ _ 62 rfl w.heap.size 76 i0 (.agg Zc) 64 Try.underlying62 hi hz0' hz1 .i64 .i64 _ _ ls.length rfl rfl rfl rfl hby (by unfold maxLen; omega) (Nat.le_refl _) ?_; intro w2 how hgr))
    have b2 : Below w.heap.size w w2 := (Below.refl _ _).grown hgr (Nat.le_refl _) (fun _ e => by cases e)
    have hsr2 := hfirst w2 _ how
    clear hfirst how hgr hcan
    go_loopw [16] (fun i wr => ∃ k : Nat, k ≤ ls.length ∧ i = .int .i64 k ∧ SR wr w.heap.size (laidTo ls k) ∧ (∀ r ∈ ls.take k, r.length = 64) ∧ Below w.heap.size w wr) (fun i _ => ls.length - (RowKit.intOf i).toNat)
    case atStart => exact ⟨0, Nat.zero_le _, rfl, hsr2, by simp, b2⟩
    case round =>
      obtain ⟨k, hk, rfl, hsr, hall, hbe⟩ := hrel
      clear hsr2 b2
      by_cases hlt : k < ls.length
      · have hlt2 : (k : Int) < (ls.length : Int) := by omega
        obtain ⟨b0, o0, rfl⟩ := h.addr (by omega)
        obtain ⟨q, qc, l, hgl, c1, hb1⟩ := (h.later hbe).get k hlt
        have hbw := h.get k hlt
        have hmem : l ∈ ls := List.mem_of_getElem? hgl.out
        by_cases hl64 : l.length = 64
        · rw [hl64] at c1 hb1
          have hall' : ∀ r ∈ ls.take (k + 1), r.length = 64 := by
            intro r hr
            rw [List.take_add_one, hgl.out] at hr
            rcases List.mem_append.1 hr with hr | hr
            · exact hall r hr
            · simp at hr; exact hr ▸ hl64
          obtain ⟨vb, vo, rfl, hvc⟩ := hb1.addr (by omega)
          have hvb : vb ≠ w.heap.size := by
            obtain ⟨q', k', l', e1, e2, e3⟩ := hbw
            have e4 : l' = l := Option.some.inj (e1.out.symm.trans hgl.out)
            subst e4
            rw [hl64] at e2 e3
            have e5 := cell_later hbe e2
            rw [c1] at e5
            simp only [Option.some.injEq, Value.slice.injEq, true_and] at e5
            obtain ⟨e6, rfl⟩ := e5
            have := e3.blk (fun e => by rw [e] at hl64; cases hl64) ⟨vb, vo, none⟩ _ _ (by rw [← e6])
            simp only at this
            omega
          have hrows := laidTo_rows ls k hall
          have hll := laidTo_len ls k hk
          have hth := hsr.there hrows k (by rw [hll]; exact hlt)
          have hput := hsr.put hrows k (by rw [hll]; exact hlt) l hl64
          rw [laidTo_set ls k l hgl.out] at hput
          obtain ⟨CS, hCS⟩ : ∃ CS, CS = bcs l := ⟨_, rfl⟩
          have hCl : CS.length = 64 := by rw [hCS, bcs_length, hl64]
          have hR : wr.rangeAt vb vo CS := by
            intro j x hx
            rw [hCS, bcs_get] at hx
            obtain ⟨y, hy, rfl⟩ := Option.map_eq_some_iff.1 hx
            exact hvc j y hy
          have hsz1 : (Try.prog.info? 76).map (·.size) = some CS.length := by rw [hCl]; exact s_sec
          have hsz2 : (Try.prog.info? 76).map (·.size) = some CS.toArray.size := by rw [List.size_toArray]; exact hsz1
          have hone : CS.toArray.all (·.oneCell') = true := all_oneCell_toArray (by rw [hCS]; exact bcs_one l)
          have hth2 : wr.there w.heap.size (k * 64) CS.toArray.size := by
            have e : CS.toArray.size = 64 := by rw [List.size_toArray, hCl]
            rw [e]
            exact hth
          have hat := array_at ⟨vb, vo, none⟩ qc wr
          rw [← hCS] at hput
          have hbe2 : Below w.heap.size w (wr.setCells w.heap.size (k * 64) CS) := by
            have hp := (Part.refl (fun q => q = w.heap.size) wr).setCells w.heap.size (k * 64) CS rfl
            exact hbe.trans (hp.below hbe.size (by rintro q rfl; exact Nat.le_refl _))
          clear hbw hgl hl64 hall hmem hvc hb1 hsr hrows hth hCl hCS hll
          go_wp2_with (first
            | (refine wpList_load_mid rfl 76 _ rfl vb vo rfl CS _ hR hu rfl hsz1 ?_)
            | (refine wpList_store_mid rfl 76 _ _ rfl w.heap.size (k * 64) CS.toArray rfl rfl hth2 hsz2 hone ?_))
          go_roundw
          case rel => first | exact ⟨k + 1, by omega, by go_num, hput, hall', hbe2⟩ | ((repeat apply Exists.intro); exact ⟨⟨k + 1, by omega, by go_num, hput, hall', hbe2⟩, rfl⟩)
          case measure => simp [RowKit.intOf]; omega
        · have hbad : Hid (¬ goodImg ls) := fun g => hl64 (g.2.2 l hmem)
          have hn64 : ¬ (l.length : Int) = 64 := by omega
          clear hbw hgl hall hmem hb1 hl64 hsr
          go_wp2
          go_ret2
          exact ⟨hbe, .inr ⟨hbad.out, rfl⟩⟩
      · obtain rfl : k = ls.length := by omega
        rw [List.take_length] at hall
        have hg : goodImg ls := ⟨hsz.1, hsz.2, hall⟩
        have hl0 : laidTo ls ls.length = ls := by simp [laidTo]
        rw [hl0] at hsr
        have hM := made_any wr _ ls hsz.1 hsz.2 hall hsr
        clear hl0 hsr hall h
        go_wp2_with (go_at_call 36; refine hM.mono ?_; rintro e w5 ⟨rfl, hd5, b5⟩)
        go_ret2
        have hs := hbe.size
        exact ⟨hbe.trans (b5.mono hs), .inl ⟨hg, _, _, _, rfl, hd5, by omega, Nat.le_refl _, hs⟩⟩
  · rw [decide_eq_false (by omega)] at hcan
    have hbad : Hid (¬ goodImg ls) := fun g => hsz ⟨g.1, g.2.1⟩
    clear h hsz
    go_enter Try.func13, Try.ntmps13
    go_wp2_with (go_at_call 35; refine hcan.mono ?_; rintro e w1 ⟨rfl, rfl⟩)
    go_ret2
    exact ⟨Below.refl _ _, .inr ⟨hbad.out, rfl⟩⟩

end Go.Proofs.Ytmikhebbcmniaaa
