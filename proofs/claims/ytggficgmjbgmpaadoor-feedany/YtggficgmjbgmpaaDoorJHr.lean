/- What this text proves: the walk of the document's Text (annalsref02) over this program: the text of a tag and parts in new memory, or the error. What this text proves: the walk of the document's Hash over this program. -/
import Derived.Test.YtggficgmjbgmpaaDoorJTx
import Derived.Test.YtggficgmjbgmpaaDoorRSum
import Derived.Test.YtggficgmjbgmpaaDoorJRs
namespace Go.Proofs.YtggficgmjbgmpaaDoor
open Go.RowKit

set_option maxRecDepth 100000 in
set_option maxHeartbeats 400000 in
theorem rtext_arg (tag : Int) (v : Value) (w : World) (p : Option Addr) (n c : Nat) (hv : v = .slice p n c) (h : tag < 0 ∨ 255 < tag) :
    Calls Tryd.prog 55 #[.int .i64 tag, v] w fun e w' => e = .returned (.tuple #[.slice none 0 0, .int .i64 1]) ∧ w' = w := by
  subst hv
  rcases h with h | h
  · have hd : decide (tag < 0) = true := by simpa using h
    go_enter Tryd.func55, Tryd.ntmps55
    go_wp2
    go_ret2
    exact ⟨rfl, rfl⟩
  · have hd : decide (tag < 0) = false := by simp; omega
    go_enter Tryd.func55, Tryd.ntmps55
    go_wp2
    go_ret2
    exact ⟨rfl, rfl⟩

set_option maxRecDepth 100000 in
set_option maxHeartbeats 4000000 in
theorem rtext_in (tag : Int) (v : Value) (ls : List (List UInt8)) (w : World) (h0 : 0 ≤ tag) (h1 : tag ≤ 255) (h : PA w v ls) (hn : ls.length ≤ 1048576) :
    Calls Tryd.prog 55 #[.int .i64 tag, v] w fun e w' => (fits ls → ∃ v', e = .returned (.tuple #[v', .int .i64 0]) ∧ w'.ownsRow w.heap.size 5 1 v' ((body ls).length + 1) (bcs (UInt8.ofNat tag.toNat :: body ls))) ∧ (¬ fits ls → e = .returned (.tuple #[.slice none 0 0, .int .i64 4])) ∧ Below w.heap.size w w' := by
  obtain ⟨p, c, rfl⟩ := h.shape
  have hlen := h.len.2
  unfold maxLen at hlen
  have hd : decide (tag < 0) = false := by simp; omega
  obtain ⟨i0, hi, hz0, hz1, hz2⟩ := info_parts i_u8
  go_enter Tryd.func55, Tryd.ntmps55
  have htg : bcs [UInt8.ofNat tag.toNat] = [.int .u8 tag] := by simp [bcs, bc]; omega
  have hown0 : (w.alloc (.cells #[.int .u8 tag] 5)).ownsRow w.heap.size 5 1 (.slice (some ⟨w.heap.size, 0, none⟩) 1 1) (1 + (body (ls.take 0)).length) (bcs (UInt8.ofNat tag.toNat :: body (ls.take 0))) := by
    have e : bcs (UInt8.ofNat tag.toNat :: body (ls.take 0)) = [.int .u8 tag] := by rw [← htg]; simp [body]
    rw [e]
    exact ⟨rfl, .inr ⟨w.heap.size, 1, #[.int .u8 tag], rfl, Nat.le_refl _, heap_alloc_new w _, Nat.le_refl _, by unfold maxLen; omega, rfl, rfl⟩⟩
  have hbe0 : Below w.heap.size w (w.alloc (.cells #[.int .u8 tag] 5)) := (Below.refl _ w).alloc (Nat.le_refl _) _
  have H0 : Hid ((w.alloc (.cells #[.int .u8 tag] 5)).ownsRow w.heap.size 5 1 (.slice (some ⟨w.heap.size, 0, none⟩) 1 1) (1 + (body (ls.take 0)).length) (bcs (UInt8.ofNat tag.toNat :: body (ls.take 0)))) := hown0
  clear hown0 htg
  go_wp2
  go_loopw [6, 20] (fun v i wr => ∃ k : Nat, k ≤ ls.length ∧ i = .int .i64 k ∧ fits (ls.take k) ∧ wr.ownsRow w.heap.size 5 1 v (1 + (body (ls.take k)).length) (bcs (UInt8.ofNat tag.toNat :: body (ls.take k))) ∧ Below w.heap.size w wr)
    (fun _ i _ => ls.length - (intOf i).toNat)
  case atStart => exact ⟨0, Nat.zero_le _, rfl, (fun p hp => by simp at hp), H0.out, hbe0⟩
  case round =>
    clear H0 hbe0
    obtain ⟨k, hk, rfl, hfk, hown, hbe⟩ := hrel
    have hbk := body_take_le ls k hk hfk
    have hszr := hbe.size
    by_cases hlt : k < ls.length
    · obtain ⟨b, o, rfl⟩ := h.addr (by omega)
      obtain ⟨q1, k1, l1, g1, hc1, hb1⟩ := h.get k hlt
      have hl1 := hb1.len.2
      unfold maxLen at hl1
      have hcr := cell_later hbe hc1
      by_cases hbig : l1.length ≤ 65535
      · have HS := text_step ls k l1 (UInt8.ofNat tag.toNat) g1.out hbig
        have hfs := fits_snoc hfk g1.out hbig
        have HFS : Hid (fits (ls.take (k + 1))) := hfs
        have HL : Hid ((body (ls.take (k + 1))).length = (body (ls.take k)).length + (l1.length + 2)) := by
          show (body (ls.take (k + 1))).length = (body (ls.take k)).length + (l1.length + 2)
          rw [body_snoc ls k l1 g1.out, List.length_append, part_length]
        generalize bcs (UInt8.ofNat tag.toNat :: body (ls.take k)) = X at *
        generalize (body (ls.take k)).length = L at *
        have HS2 : Hid (X ++ [.int .u8 ((l1.length : Int) / 256), .int .u8 ((l1.length : Int) % 256)] ++ bcs l1 = bcs (UInt8.ofNat tag.toNat :: body (ls.take (k + 1)))) := HS
        clear HS hc1 hfk hfs
        go_wp2_with (first | (at_builtin; refine wpList_append_own _ rfl (.tmp 27) (.tmp 35) 39 rfl w.heap.size 5 i0 (.int .u8 0) 1 1 Tryd.underlying39 hi hz0 hz1 hz2 rfl (by decide) _ _ _ rfl (hown.alloc _) ⟨wr.heap.size, 0, none⟩ 2 2 [.int .u8 ((l1.length : Int) / 256), .int .u8 ((l1.length : Int) % 256)] rfl rfl ?ra ?rb ?rc ?rd ?re ?_))
        case ra => exact cell_two_new _ _ _ _
        case rb => intro u hu; simp at hu; rcases hu with rfl | rfl <;> rfl
        case rc => unfold maxLen; omega
        case rd => omega
        case re => simp; omega
        intro v3 w3 hown3 hgrow3 _
        have hb3 : Below w.heap.size w w3 := (hbe.alloc hszr _).grown hgrow3 (by simp; omega) (fun k hk => (hown.lt k hk).1)
        have hsz3 := hb3.size
        have hbr3 := hb1.later hb3
        clear hown hgrow3 hcr
        go_wp2_with (first | (at_builtin; refine wpList_append_hb rfl (.tmp 36) (.tmp 37) 39 rfl w.heap.size 5 Tryd.underlying39 i_u8 _ _ _ rfl hown3 _ _ _ l1 rfl hbr3 ?sa ?sb ?_))
        case sa => omega
        case sb => omega
        intro v4 w4 hown4 hgrow4
        have hb4 : Below w.heap.size w w4 := hb3.grown hgrow4 hsz3 (fun k hk => (hown3.lt k hk).1)
        have hown5 : w4.ownsRow w.heap.size 5 1 v4 (1 + (body (ls.take (k + 1))).length) (bcs (UInt8.ofNat tag.toNat :: body (ls.take (k + 1)))) := by
          rw [HL.out, ← HS2.out]
          have e : 1 + (L + (l1.length + 2)) = 1 + L + 2 + l1.length := by omega
          rw [e]
          simpa using hown4
        clear hown4 hown3 hgrow4 hb3 hbr3
        go_wp2
        go_roundw
        case rel => first | exact ⟨k + 1, by omega, by go_num, HFS.out, hown5, hb4⟩ | ((repeat apply Exists.intro); exact ⟨⟨k + 1, by omega, by go_num, HFS.out, hown5, hb4⟩, rfl⟩)
        case measure => simp [intOf]; omega
      · have HNF : Hid (¬ fits ls) := fun hf => hbig (hf l1 (List.mem_of_getElem? g1.out))
        clear hown hfk hbk
        go_wp2
        go_ret2
        exact ⟨fun hf => absurd hf HNF.out, fun _ => rfl, hbe⟩
    · have hkl : k = ls.length := by omega
      subst hkl
      rw [List.take_of_length_le (Nat.le_refl _)] at hown hfk hbk
      have HF : Hid (fits ls) := hfk
      clear hfk hbk
      go_wp2
      go_ret2
      refine ⟨fun _ => ⟨_, rfl, ?_⟩, fun hf => absurd HF.out hf, hbe⟩
      rw [Nat.add_comm _ 1]
      exact hown

end Go.Proofs.YtggficgmjbgmpaaDoor

namespace Go.Proofs.YtggficgmjbgmpaaDoor
open Go.RowKit

set_option maxRecDepth 100000 in
set_option maxHeartbeats 1000000 in
theorem rhash_ty (size tag er : Int) (v : Value) (L D : List UInt8) (w : World) (hv : ∃ p n c, v = .slice p n c) (hD : D.length = 32)
    (ht : Calls Tryd.prog 55 #[.int .i64 tag, v] w fun e w' => ∃ p c, e = .returned (.tuple #[.slice p L.length c, .int .i64 er]) ∧ HB w' (.slice p L.length c) L ∧ Below w.heap.size w w')
    (hs : ∀ v w', HB w' v L → Below w.heap.size w w' → Calls Tryd.prog 62 #[v] w' fun e w'' => ∃ v', e = .returned v' ∧ w''.ownsRow w'.heap.size 5 1 v' 32 (bcs D) ∧ Below w'.heap.size w' w'') :
    Calls Tryd.prog 43 #[.int .i64 size, .int .i64 tag, v] w fun e w' => ∃ p c, e = .returned (.slice p (hashL size er D).length c) ∧ HB w' (.slice p (hashL size er D).length c) (hashL size er D) ∧ Below w.heap.size w w' ∧ TB w' (.slice p (hashL size er D).length c) := by
  obtain ⟨p, n, c, rfl⟩ := hv
  have HT : Hid (Calls Tryd.prog 55 #[.int .i64 tag, .slice p n c] w fun e w' => ∃ p c, e = .returned (.tuple #[.slice p L.length c, .int .i64 er]) ∧ HB w' (.slice p L.length c) L ∧ Below w.heap.size w w') := ht
  have HS : Hid _ := hs
  have HD : Hid (D.length = 32) := hD
  clear ht hs hD
  by_cases h0 : er = 0
  · subst h0
    have hl : hashL size 0 D = D.take (cutLen size) := by simp [hashL]
    rw [hl]
    clear hl
    have HL : Hid ((D.take (cutLen size)).length = cutLen size) := by
      have := cutLen_le size
      show _ = _
      rw [List.length_take, HD.out]
      omega
    go_enter Tryd.func43, Tryd.ntmps43
    go_wp2_with fail
    refine HT.out.mono ?_
    rintro e w1 ⟨p1, c1, rfl, h1, hb1⟩
    go_wp2_with fail
    refine (rcut_ty _ _ _ _ HD.out (HS.out _ _ h1 hb1)).mono ?_
    rintro e w2 ⟨p2, c2, rfl, h2, hb2, t2⟩
    have HH : Hid (HB w2 (.slice p2 (cutLen size) c2) (D.take (cutLen size))) := h2
    clear h1 h2 HT HS
    go_wp2
    go_ret
    refine ⟨p2, c2, ?_, ?_, hb1.trans (hb2.mono hb1.size), t2.front _ _⟩
    · rw [HL.out]; rfl
    · rw [HL.out]; exact HH.out
  · have hl : hashL size er D = [] := by simp [hashL, h0]
    rw [hl]
    clear hl HS HD
    go_enter Tryd.func43, Tryd.ntmps43
    go_wp2_with fail
    refine HT.out.mono ?_
    rintro e w1 ⟨p1, c1, rfl, h1, hb1⟩
    clear HT h1
    go_wp2
    go_ret
    exact ⟨none, 0, rfl, HB.nil _, hb1, TB.nil _ _ _⟩

theorem rhash_toT (size : Int) (tag : Nat) (v : Value) (ls : List (List UInt8)) (w : World) (hn : ls.length ≤ 10) (ht : tag ≤ 255) (h : PA w v ls) :
    Calls Tryd.prog 43 #[.int .i64 size, .int .i64 (tag : Int), v] w fun e w' => ∃ p c, e = .returned (.slice p (hashF size tag ls).length c) ∧ HB w' (.slice p (hashF size tag ls).length c) (hashF size tag ls) ∧ Below w.heap.size w w' ∧ TB w' (.slice p (hashF size tag ls).length c) := by
  obtain ⟨p, c, hv⟩ := h.shape
  by_cases hf : fits ls
  · have hle := body_le ls hf
    have e1 : hashF size tag ls = hashL size 0 (sha (UInt8.ofNat tag :: body ls)) := by
      unfold hashF hashL
      rw [if_pos (show ∀ p ∈ ls, p.length ≤ 65535 from hf), if_pos rfl]
    rw [e1]
    have hl : (UInt8.ofNat tag :: body ls).length ≤ 140737488351232 := by simp; omega
    refine rhash_ty size tag 0 v (UInt8.ofNat tag :: body ls) _ w ⟨p, _, c, hv⟩ (sha_length _) ?_ ?_
    · refine (rtext_in tag v ls w (by omega) (by omega) h (by omega)).mono fun e w' ⟨h1, _, hb⟩ => ?_
      obtain ⟨v', he, ho⟩ := h1 hf
      have hh := HB.of_owns ho
      obtain ⟨p, c, hv⟩ := hh.shape
      subst hv
      exact ⟨p, c, he, hh, hb⟩
    · intro v w' hv _
      exact rsum_any v _ w' hv hl
  · have e1 : hashF size tag ls = hashL size 4 (sha []) := by
      unfold hashF hashL
      rw [if_neg (show ¬ ∀ p ∈ ls, p.length ≤ 65535 from hf), if_neg (by decide)]
    rw [e1]
    refine rhash_ty size tag 4 v [] _ w ⟨p, _, c, hv⟩ (sha_length _) ?_ ?_
    · exact (rtext_in tag v ls w (by omega) (by omega) h (by omega)).mono fun e w' ⟨_, h2, hb⟩ => ⟨none, 0, h2 hf, HB.nil _, hb⟩
    · intro v w' hv _
      exact rsum_any v _ w' hv (by simp)

theorem rhash_any (size tag er : Int) (v : Value) (L D : List UInt8) (w : World) (hv : ∃ p n c, v = .slice p n c) (hD : D.length = 32)
    (ht : Calls Tryd.prog 55 #[.int .i64 tag, v] w fun e w' => ∃ p c, e = .returned (.tuple #[.slice p L.length c, .int .i64 er]) ∧ HB w' (.slice p L.length c) L ∧ Below w.heap.size w w')
    (hs : ∀ v w', HB w' v L → Below w.heap.size w w' → Calls Tryd.prog 62 #[v] w' fun e w'' => ∃ v', e = .returned v' ∧ w''.ownsRow w'.heap.size 5 1 v' 32 (bcs D) ∧ Below w'.heap.size w' w'') :
    Calls Tryd.prog 43 #[.int .i64 size, .int .i64 tag, v] w fun e w' => ∃ p c, e = .returned (.slice p (hashL size er D).length c) ∧ HB w' (.slice p (hashL size er D).length c) (hashL size er D) ∧ Below w.heap.size w w' :=
  (rhash_ty size tag er v L D w hv hD ht hs).mono fun _ _ ⟨p, c, h1, h2, h3, _⟩ => ⟨p, c, h1, h2, h3⟩

theorem rhash_to (size : Int) (tag : Nat) (v : Value) (ls : List (List UInt8)) (w : World) (hn : ls.length ≤ 10) (ht : tag ≤ 255) (h : PA w v ls) :
    Calls Tryd.prog 43 #[.int .i64 size, .int .i64 (tag : Int), v] w fun e w' => ∃ p c, e = .returned (.slice p (hashF size tag ls).length c) ∧ HB w' (.slice p (hashF size tag ls).length c) (hashF size tag ls) ∧ Below w.heap.size w w' :=
  (rhash_toT size tag v ls w hn ht h).mono fun _ _ ⟨p, c, h1, h2, h3, _⟩ => ⟨p, c, h1, h2, h3⟩

end Go.Proofs.YtggficgmjbgmpaaDoor
