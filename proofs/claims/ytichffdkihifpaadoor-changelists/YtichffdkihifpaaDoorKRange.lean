/- What this text proves: the walk of merkle.Range over this program: the roots of the parts outside a range, from left to right. -/
import Derived.Test.YtichffdkihifpaaDoorKRt
import Derived.Test.YtichffdkihifpaaDoorKCount
import Derived.Test.YtichffdkihifpaaDoorRSRow
import Derived.Test.YtichffdkihifpaaDoorStepCall
import Derived.Deep.RegionLaw
import Derived.Deep.AppendLies
namespace Go.Proofs.YtichffdkihifpaaDoor
open Go.RowKit

/-- A row of rows of bytes that the call owns, each in a block of bytes. -/
def RL (w : World) (base : Nat) (v : Value) (ls : List (List UInt8)) : Prop := RS w base v ls.length (fun j => ls.getD j [])

theorem RL.later {w w' : World} {base : Nat} {v : Value} {ls : List (List UInt8)} (h : RL w base v ls) (hb : Below w.heap.size w w') : RL w' base v ls := RS.later h hb
theorem RL.nil (w : World) (base : Nat) : RL w base (.slice none 0 0) [] := ⟨[], World.ownsRow_nil _ _ _ _, fun j u h => by simp at h⟩
theorem RL.pa {w : World} {base : Nat} {v : Value} {ls : List (List UInt8)} (h : RL w base v ls) : PA w v ls := by
  have := RS.pa h
  have e : (List.range ls.length).map (fun j => ls.getD j []) = ls := by
    apply List.ext_getElem
    · simp
    · intro i h1 h2; simp [List.getD, h2]
  rwa [e] at this

theorem RL.snoc {w w' : World} {base : Nat} {v v' x : Value} {vs : List Value} {ls : List (List UInt8)} {l : List UInt8} (h1 : w.ownsRow base 25 1 v ls.length vs) (h2 : ∀ (j : Nat) u, vs[j]? = some u → HB w u (ls.getD j []) ∧ TB w u) (hx : HB w x l) (tx : TB w x)
    (hg : w.grownBy w' v.ownBlock) (ho : w'.ownsRow base 25 1 v' (ls.length + 1) (vs ++ [x])) : RL w' base v' (ls ++ [l]) := by
  have hl := h1.1
  rw [Nat.mul_one] at hl
  have := RS.snoc (sig := fun j => (ls ++ [l]).getD j []) h1 (fun j u hu => by
    have hj : j < ls.length := by
      have := (List.getElem?_eq_some_iff.1 hu).1
      omega
    have e : (ls ++ [l]).getD j [] = ls.getD j [] := by simp [List.getD, List.getElem?_append_left hj]
    show HB w u ((ls ++ [l]).getD j []) ∧ TB w u
    rw [e]
    exact h2 j u hu) (by
      show HB w x ((ls ++ [l]).getD ls.length [])
      have e : (ls ++ [l]).getD ls.length [] = l := by simp [List.getD]
      rw [e]
      exact hx) tx hg ho
  unfold RL
  rwa [List.length_append]

/-- What is written into a block of other things leaves them. -/
theorem RL.only {w w' : World} {g base : Nat} {v : Value} {ls : List (List UInt8)} {cs : Array Value} {t : TypeId} {fr : Nat × Nat} (h : RL w base v ls) (ho : Only g w w') (hg : w.heap[g]? = some (.cells cs t fr)) (h1 : t ≠ 5) (h2 : t ≠ 25) : RL w' base v ls := by
  obtain ⟨vs, o, q⟩ := h
  refine ⟨vs, ⟨o.1, ?_⟩, fun j u hu => ?_⟩
  · rcases o.2 with hn | ⟨b, cap, cur, rfl, hb, hc, rest⟩
    · exact .inl hn
    · refine .inr ⟨b, cap, cur, rfl, hb, ?_, rest⟩
      have hne : b ≠ g := by
        intro e
        subst e
        rw [hg] at hc
        simp only [Option.some.injEq, Obj.cells.injEq] at hc
        exact h2 hc.2.1
      rw [ho.block b hne (Array.getElem?_eq_some_iff.1 hc).1]
      exact hc
  · obtain ⟨k1, k2⟩ := q j u hu
    refine ⟨((HBG.typed k1 k2 hg h1).only ho).1, fun b o' n c e => ?_⟩
    obtain ⟨cur, fr', hc⟩ := k2 b o' n c e
    have hne : b ≠ g := by
      intro e
      subst e
      rw [hg] at hc
      simp only [Option.some.injEq, Obj.cells.injEq] at hc
      exact h1 hc.2.1
    exact ⟨cur, fr', by rw [ho.block b hne (Array.getElem?_eq_some_iff.1 hc).1]; exact hc⟩

/-- A cut of rows: from k up to h. -/
theorem PA.seg {w : World} {p : Option Addr} {n c : Nat} {ls : List (List UInt8)} (h : PA w (.slice p n c) ls) (b e : Nat) (hbe : b ≤ e) (he : e ≤ n) :
    PA w (.slice (cutP p c b) (e - b) (c - b)) (seg ls b e) := by
  obtain ⟨p', cap, vs, ev, h1, h2, h3, h4, h5, h6⟩ := h
  simp only [Value.slice.injEq] at ev
  obtain ⟨rfl, rfl, rfl⟩ := ev
  refine ⟨cutP p c b, c - b, (vs.drop b).take (e - b), ?_, ?_, by omega, ?_, ?_, ?_, ?_⟩
  · rw [seg_length he]
  · rw [seg_length he]; omega
  · intro hp
    unfold cutP at hp
    split at hp
    · omega
    · have := h3 (by simpa using hp)
      omega
  · rw [seg_length he]; simp; omega
  · intro hn
    have hkl : b < e := by
      rcases Nat.lt_or_ge b e with h | h
      · exact h
      · exact absurd (by unfold Go.Proofs.YtichffdkihifpaaDoor.seg; rw [show e - b = 0 by omega]; simp) hn
    have hl : ls ≠ [] := by
      intro e0
      subst e0
      simp at he
      omega
    obtain ⟨bl, o, rfl, hc⟩ := h5 hl
    refine ⟨bl, o + b, ?_, fun i x hx => ?_⟩
    · unfold cutP
      rw [if_neg (by omega)]
      simp [Addr.add_lit]
    · rw [List.getElem?_take] at hx
      split at hx
      · rw [List.getElem?_drop] at hx
        have := hc (b + i) x hx
        rwa [← Nat.add_assoc] at this
      · cases hx
  · intro i x l hx hl
    unfold Go.Proofs.YtichffdkihifpaaDoor.seg at hl
    rw [List.getElem?_take] at hx hl
    split at hx
    · rename_i hi
      rw [if_pos hi] at hl
      rw [List.getElem?_drop] at hx hl
      exact h6 (b + i) x l hx hl
    · cases hx

/-- The root of a part of digests. -/
def partF (size : Int) (ls : List (List UInt8)) (q : Nat × Nat) : List UInt8 := rootF size (seg ls q.1 q.2)

/-- The three boxes of Range. -/
def RG (w0 : World) (size : Int) (lv : Value) (ls : List (List UInt8)) (acc : List (Nat × Nat)) (w : World) : Prop :=
  ∃ rv, w.heap[w0.heap.size]? = some (.cells #[.int .i64 size] 3 (0, 0)) ∧ w.heap[w0.heap.size + 1]? = some (.cells #[lv] 22 (0, 0)) ∧ w.heap[w0.heap.size + 2]? = some (.cells #[rv] 22 (0, 0)) ∧ RL w (w0.heap.size + 3) rv (acc.map (partF size ls)) ∧ Below w0.heap.size w0 w ∧ w0.heap.size + 2 < w.heap.size

theorem eg_rangeF : ∀ args w, (callFunc 38 args).run Tryd.prog w = .ok (.enter 38 args) w := by intro args w; go_simp
theorem cf_root (a b : Value) (w : World) : (callFunc 10 #[a, b]).run Tryd.prog w = .ok (.enter 10 #[a, b]) w := by go_simp

set_option maxRecDepth 100000 in
set_option maxHeartbeats 4000000 in
theorem rangeF_walk (w0 : World) (size : Int) (lv : Value) (ls : List (List UInt8)) (acc : List (Nat × Nat)) (b e : Nat) (w : World) (hT0 : Tabs w0) (hp : PA w0 lv ls) (hbig : ls.length ≤ 1048576) (hls : ∀ l ∈ ls, l.length ≤ 140737488355328) (h : RG w0 size lv ls acc w) (hbe : b < e) (he : e ≤ ls.length) (hacc0 : acc.length ≤ b) :
    Calls Tryd.prog 38 (#[.int .i64 (b : Int), .int .i64 (e : Int)] ++ #[.pointer (some ⟨w0.heap.size + 2, 0, none⟩), .pointer (some ⟨w0.heap.size, 0, none⟩), .pointer (some ⟨w0.heap.size + 1, 0, none⟩)]) w fun x w' => x = .returned (.tuple #[]) ∧ RG w0 size lv ls (acc ++ [(b, e)]) w' := by
  show Calls Tryd.prog 38 #[.int .i64 (b : Int), .int .i64 (e : Int), .pointer (some ⟨w0.heap.size + 2, 0, none⟩), .pointer (some ⟨w0.heap.size, 0, none⟩), .pointer (some ⟨w0.heap.size + 1, 0, none⟩)] w _
  obtain ⟨rv, g0, g1, g2, hr, hb, hsz⟩ := h
  have hT := hT0.later hb
  obtain ⟨p, c, rfl⟩ := hp.shape
  have c0 : w.cell? ⟨w0.heap.size, 0, none⟩ = some (.int .i64 size) := by rw [cell_of_row w _ _ _ _ _ g0]; rfl
  have c1 : w.cell? ⟨w0.heap.size + 1, 0, none⟩ = some (.slice p ls.length c) := by rw [cell_of_row w _ _ _ _ _ g1]; rfl
  have c2 : w.cell? ⟨w0.heap.size + 2, 0, none⟩ = some rv := by rw [cell_of_row w _ _ _ _ _ g2]; rfl
  have hlen := hp.len
  have k1 : ∀ w, (Instr.slice 22 (.slice p ls.length c) (some (.int .i64 (b : Int))) (some (.int .i64 (e : Int))) none).run Tryd.prog w = .ok (.slice (cutP p c b) (e - b) (c - b)) w := fun w => run_cut2 (P := Tryd.prog) Tryd.underlying22 s_bytes p ls.length c b e b e rfl rfl (by omega) (by omega) w
  have hpart := PA.seg hp b e (by omega) he
  have hR : ∀ w', Below w.heap.size w w' → Calls Tryd.prog 10 #[.int .i64 size, .slice (cutP p c b) (e - b) (c - b)] w' fun x w'' => ∃ v, x = .returned v ∧ (HB w'' v (partF size ls (b, e)) ∧ TB w'' v ∧ Below w'.heap.size w' w'' ∧ ∃ p2 c2, v = .slice p2 (partF size ls (b, e)).length c2) := by
    intro w' hb'
    have hl1 := seg_length (b := b) he
    refine (root_any size _ (seg ls b e) w' ((hpart.later hb).later hb') (hT.later hb') (by omega) (rootF_len size _ (by decide) _ (by omega) fun l hl => hls l (seg_mem hl))).mono ?_
    rintro x w'' ⟨p2, c2, h1, h2, h3, h4⟩
    exact ⟨_, h1, h2, h4, h3, p2, c2, rfl⟩
  have HP : Hid (acc.map (partF size ls) ++ [partF size ls (b, e)] = (acc ++ [(b, e)]).map (partF size ls)) := by show _ = _; simp
  have hal : (acc.map (partF size ls)).length ≤ 1048576 := by simp; omega
  generalize partF size ls (b, e) = F at *
  generalize hA : acc.map (partF size ls) = A at *
  obtain ⟨i0, hi0, hz0, hz1, hz2⟩ := info_parts i_bytes
  clear hacc0
  clear hpart hp hls hbe he
  obtain ⟨vs, o1, q1⟩ := hr
  have hfar : ∀ k, some k = rv.ownBlock → w0.heap.size + 3 ≤ k := fun k hk => (o1.lt k hk.symm).1
  go_enter Tryd.func38, Tryd.ntmps38
  go_wp2
  go_region_law (first
    | (refine step_calls2 (by rfl) 10 _ _ _ _ (by rfl) _ _ (by rfl) (by rfl) (cf_root _ _ _) _ (hR _ (by repeat (first | exact Below.refl _ _ | refine Below.drew ?_))) ?_; rintro e w5 ⟨h5, t5, hb5', p5, c5, rfl⟩; have hb5 : Below w.heap.size w w5 := Below.trans (by repeat (first | exact Below.refl _ _ | refine Below.drew ?_)) hb5'; have d2 := cell_later hb5 c2; have bB := (Below.refl _ w5).alloc (Nat.le_refl _) (.cells #[.slice p5 F.length c5] 25); have e2 := cell_later bB d2; have s5 := hb5.size)
    | (refine step_append_lies _ (by rfl) _ _ _ (by rfl) (w0.heap.size + 3) 25 i0 _ 1 24 Tryd.underlying22 hi0 hz0 hz1 hz2 rfl (by omega) _ A.length vs (by rfl) (owns_later (owns_later o1 hb5) bB) ⟨w5.heap.size, 0, none⟩ 1 1 [.slice p5 F.length c5] (by rfl) (by rfl) (World.news_of_block (cs := #[.slice p5 F.length c5]) (t := 25) (fr := (0, 0)) (heap_alloc_new w5 _)) (by simp [Value.oneCell']) (by omega) (by unfold maxLen; omega) (by omega) (by simp; omega) (w5.heap.size + 1) (by simp) ?_; intro g7 cap7 w7 hown7 hgrow7 hat hlt7; have g27 : w7.heap[w0.heap.size + 2]? = some (.cells #[rv] 22 (0, 0)) := (hgrow7.block _ (by simp; omega) (fun hk => by have := hfar _ hk; omega)).trans ((bB.block _ (by omega)).trans ((hb5.block _ (by omega)).trans g2)); have x7 : w7.cell? ⟨w0.heap.size + 2, 0, none⟩ = some rv := (by rw [cell_of_row _ _ 0 _ _ _ g27]; rfl); have z7 : w7.frozen? ⟨w0.heap.size + 2, 0, none⟩ = false := (by simp [World.frozen?, g27])))
  all_goals
    have g07 : w7.heap[w0.heap.size]? = some (.cells #[.int .i64 size] 3 (0, 0)) := (hgrow7.block _ (by simp; omega) (fun hk => by have := hfar _ hk; omega)).trans ((bB.block _ (by omega)).trans ((hb5.block _ (by omega)).trans g0))
    have g17 : w7.heap[w0.heap.size + 1]? = some (.cells #[.slice p ls.length c] 22 (0, 0)) := (hgrow7.block _ (by simp; omega) (fun hk => by have := hfar _ hk; omega)).trans ((bB.block _ (by omega)).trans ((hb5.block _ (by omega)).trans g1))
    have r7 : RL w7 (w0.heap.size + 3) (.slice (some ⟨g7, 0, none⟩) (A.length + 1) cap7) (A ++ [F]) := RL.snoc (owns_later (owns_later o1 hb5) bB) (fun j u hu => ⟨((q1 j u hu).1.later hb5).later bB, ((q1 j u hu).2.later hb5).later bB⟩) (h5.later bB) (t5.later bB) hgrow7 hown7
    have b7 : Below w0.heap.size w0 w7 := ((hb.trans (hb5.mono (by omega))).trans (bB.mono (by omega))).grown hgrow7 (by simp; omega) (fun k hk => by have := hfar k hk.symm; omega)
    have O7 := (Only.refl (w0.heap.size + 2) w7).setCell 0 (.slice (some ⟨g7, 0, none⟩) (A.length + 1) cap7)
    have b8 : Below w0.heap.size w0 (w7.setCell ⟨w0.heap.size + 2, 0, none⟩ (.slice (some ⟨g7, 0, none⟩) (A.length + 1) cap7)) := b7.setCell (by simp) _
    have hl7 : w0.heap.size + 2 < w7.heap.size := (Array.getElem?_eq_some_iff.1 g27).1
    rw [HP.out] at r7
    have H : Hid (RG w0 size (.slice p ls.length c) ls (acc ++ [(b, e)]) (w7.setCell ⟨w0.heap.size + 2, 0, none⟩ (.slice (some ⟨g7, 0, none⟩) (A.length + 1) cap7))) := by
      refine ⟨_, (O7.block _ (by omega) (by omega)).trans g07, (O7.block _ (by omega) (by omega)).trans g17, ?_, r7.only O7 g27 (by decide) (by decide), b8, Nat.lt_of_lt_of_le hl7 O7.size⟩
      rw [heap_setCell_same w7 _ 0 _ _ _ g27]
      rfl
    clear g07 g17 g27 x7 z7 hown7 hgrow7 hat hlt7 r7 b7 b8 O7 hl7 e2 bB d2 hb5 h5 t5 hb5' q1 o1 HP hA k1 hR c0 c1 c2 g0 g1 g2
    go_wp2
    go_end0
    exact ⟨rfl, H.out⟩

set_option maxRecDepth 100000 in
set_option maxHeartbeats 1000000 in
theorem range_ok (size : Int) (v : Value) (ls : List (List UInt8)) (lo hi : Nat) (w : World) (hT : Tabs w) (hp : PA w v ls) (hbig : ls.length ≤ 1048576) (hls : ∀ l ∈ ls, l.length ≤ 140737488355328) (h1 : lo ≤ hi) (h2 : hi ≤ ls.length) (h0 : 0 < ls.length) :
    Calls Tryd.prog 13 #[.int .i64 size, v, .int .i64 (lo : Int), .int .i64 (hi : Int)] w fun x w' => ∃ p c, x = .returned (.slice p (wo lo hi 20 0 ls.length).length c) ∧ PA w' (.slice p (wo lo hi 20 0 ls.length).length c) ((wo lo hi 20 0 ls.length).map (partF size ls)) ∧ Below w.heap.size w w' := by
  obtain ⟨p, c, rfl⟩ := hp.shape
  have hL := fun w => lies_any (ls.length : Int) (lo : Int) (hi : Int) w
  rw [show decide (0 ≤ (lo : Int) ∧ (lo : Int) ≤ (hi : Int) ∧ (hi : Int) ≤ (ls.length : Int)) = true by simp; omega] at hL
  have b1 := (Below.refl w.heap.size w).alloc (Nat.le_refl _) (.cells #[.int .i64 size] 3)
  have b2 := b1.alloc b1.size (.cells #[.slice p ls.length c] 22)
  have b3 := b2.alloc b2.size (.cells #[.slice none 0 0] 22)
  have n1 := heap_alloc_new w (.cells #[.int .i64 size] 3)
  have n2 := heap_alloc_new (w.alloc (.cells #[.int .i64 size] 3)) (.cells #[.slice p ls.length c] 22)
  have n3 := heap_alloc_new ((w.alloc (.cells #[.int .i64 size] 3)).alloc (.cells #[.slice p ls.length c] 22)) (.cells #[.slice none 0 0] 22)
  have HG : Hid (RG w size (.slice p ls.length c) ls [] (((w.alloc (.cells #[.int .i64 size] 3)).alloc (.cells #[.slice p ls.length c] 22)).alloc (.cells #[.slice none 0 0] 22))) := by
    have s1 : (w.alloc (.cells #[.int .i64 size] 3)).heap.size = w.heap.size + 1 := by simp
    have s2 : ((w.alloc (.cells #[.int .i64 size] 3)).alloc (.cells #[.slice p ls.length c] 22)).heap.size = w.heap.size + 2 := by simp
    rw [s1] at n2
    rw [s2] at n3
    refine ⟨.slice none 0 0, ?_, ?_, n3, RL.nil _ _, b3, by simp⟩
    · exact (((Below.refl _ _).alloc (Nat.le_refl _) _).block _ (by rw [s2]; omega)).trans ((((Below.refl _ _).alloc (Nat.le_refl _) _).block _ (by rw [s1]; omega)).trans n1)
    · exact (((Below.refl _ _).alloc (Nat.le_refl _) _).block _ (by rw [s2]; omega)).trans n2
  have hW : ∀ w1, RG w size (.slice p ls.length c) ls [] w1 → Calls Tryd.prog 37 #[.int .i64 0, .int .i64 (ls.length : Int), .int .i64 (lo : Int), .int .i64 (hi : Int), .func (.func 38) #[] #[.pointer (some ⟨w.heap.size + 2, 0, none⟩), .pointer (some ⟨w.heap.size, 0, none⟩), .pointer (some ⟨w.heap.size + 1, 0, none⟩)]] w1 fun x w' => x = .returned (.tuple #[]) ∧ RG w size (.slice p ls.length c) ls (wo lo hi 20 0 ls.length) w' :=
    fun w1 hc => without_any 38 _ eg_rangeF lo hi ls.length (RG w size (.slice p ls.length c) ls) (by omega) (fun acc b e w' hc ha hbe he => rangeF_walk w size _ ls acc b e w' hT hp hbig hls hc hbe he ha) 20 0 ls.length [] w1 h0 (by omega) (Nat.le_refl _) (by simp) hc
  clear hT hp hls n1 n2 n3 b1 b2 b3
  have c1 : (w.alloc (.cells #[.int .i64 size] 3)).heap.size = w.heap.size + 1 := by simp
  go_enter Tryd.func13, Tryd.ntmps13
  go_wp2_with fail
  refine (hL _).mono ?_
  rintro x w1 ⟨rfl, hw⟩
  subst hw
  clear hL
  go_wp2_with fail
  refine (hW _ HG.out).mono ?_
  rintro x w2 ⟨rfl, rv, g0, g1, g2, hr, hb, hsz⟩
  have c0 : w2.cell? ⟨w.heap.size + 2, 0, none⟩ = some rv := by rw [cell_of_row w2 _ _ _ _ _ g2]; rfl
  have hpa := hr.pa
  obtain ⟨p3, c3, hv⟩ := hpa.shape
  rw [List.length_map] at hv
  subst hv
  clear hW hr g0 g1 g2 HG
  go_wp2
  go_ret
  exact ⟨p3, c3, rfl, hpa, hb⟩

/-- What shows a range of digests. -/
def rngF (size : Int) (ls : List (List UInt8)) (lo hi : Int) : List (List UInt8) := if 0 ≤ lo ∧ lo ≤ hi ∧ hi ≤ ls.length ∧ 0 < ls.length then (wo lo.toNat hi.toNat 20 0 ls.length).map (partF size ls) else []

set_option maxRecDepth 100000 in
set_option maxHeartbeats 1000000 in
theorem range_no (size : Int) (v : Value) (ls : List (List UInt8)) (lo hi : Int) (w : World) (hp : PA w v ls) (h : ¬ (0 ≤ lo ∧ lo ≤ hi ∧ hi ≤ (ls.length : Int))) :
    Calls Tryd.prog 13 #[.int .i64 size, v, .int .i64 lo, .int .i64 hi] w fun x w' => x = .returned (.slice none 0 0) ∧ Below w.heap.size w w' := by
  obtain ⟨p, c, rfl⟩ := hp.shape
  have hL := fun w => lies_any (ls.length : Int) lo hi w
  rw [show decide (0 ≤ lo ∧ lo ≤ hi ∧ hi ≤ (ls.length : Int)) = false by simp; omega] at hL
  have b1 := (Below.refl w.heap.size w).alloc (Nat.le_refl _) (.cells #[.int .i64 size] 3)
  have HB : Hid (Below w.heap.size w ((w.alloc (.cells #[.int .i64 size] 3)).alloc (.cells #[.slice p ls.length c] 22))) := b1.alloc b1.size _
  clear b1 hp h
  have c1 : (w.alloc (.cells #[.int .i64 size] 3)).heap.size = w.heap.size + 1 := by simp
  go_enter Tryd.func13, Tryd.ntmps13
  go_wp2_with fail
  refine (hL _).mono ?_
  rintro x w1 ⟨rfl, hw⟩
  subst hw
  clear hL
  go_wp2
  go_ret
  exact ⟨rfl, HB.out⟩

set_option maxRecDepth 100000 in
set_option maxHeartbeats 1000000 in
theorem range_nil (size : Int) (v : Value) (w : World) (hp : PA w v []) :
    Calls Tryd.prog 13 #[.int .i64 size, v, .int .i64 0, .int .i64 0] w fun x w' => x = .returned (.slice none 0 0) ∧ Below w.heap.size w w' := by
  obtain ⟨p, c, rfl⟩ := hp.shape
  have hL := fun w => lies_any 0 0 0 w
  rw [show decide (0 ≤ (0 : Int) ∧ (0 : Int) ≤ 0 ∧ (0 : Int) ≤ 0) = true by decide] at hL
  have hW := fun fv w => without_in fv 0 0 0 0 w (Nat.le_refl _) (Nat.le_refl _)
  simp only [Int.natCast_zero, List.length_nil] at *
  have b1 := (Below.refl w.heap.size w).alloc (Nat.le_refl _) (.cells #[.int .i64 size] 3)
  have b2 := b1.alloc b1.size (.cells #[.slice p 0 c] 22)
  have HB : Hid (Below w.heap.size w (((w.alloc (.cells #[.int .i64 size] 3)).alloc (.cells #[.slice p 0 c] 22)).alloc (.cells #[.slice none 0 0] 22))) := b2.alloc b2.size _
  clear b1 b2 hp
  have c1 : (w.alloc (.cells #[.int .i64 size] 3)).heap.size = w.heap.size + 1 := by simp
  go_enter Tryd.func13, Tryd.ntmps13
  go_wp2_with fail
  refine (hL _).mono ?_
  rintro x w1 ⟨rfl, hw⟩
  subst hw
  clear hL
  go_wp2_with fail
  refine (hW _ _).mono ?_
  rintro x w2 ⟨rfl, hw⟩
  subst hw
  clear hW
  go_wp2
  go_ret
  exact ⟨rfl, HB.out⟩

theorem range_any (size : Int) (v : Value) (ls : List (List UInt8)) (lo hi : Int) (w : World) (hT : Tabs w) (hp : PA w v ls) (hbig : ls.length ≤ 1048576) (hls : ∀ l ∈ ls, l.length ≤ 140737488355328) :
    Calls Tryd.prog 13 #[.int .i64 size, v, .int .i64 lo, .int .i64 hi] w fun x w' => ∃ p c, x = .returned (.slice p (rngF size ls lo hi).length c) ∧ PA w' (.slice p (rngF size ls lo hi).length c) (rngF size ls lo hi) ∧ Below w.heap.size w w' := by
  by_cases h : 0 ≤ lo ∧ lo ≤ hi ∧ hi ≤ (ls.length : Int)
  · obtain ⟨A, rfl⟩ : ∃ A : Nat, lo = (A : Int) := ⟨lo.toNat, by omega⟩
    obtain ⟨B, rfl⟩ : ∃ B : Nat, hi = (B : Int) := ⟨hi.toNat, by omega⟩
    by_cases h0 : 0 < ls.length
    · have e : rngF size ls (A : Int) (B : Int) = (wo A B 20 0 ls.length).map (partF size ls) := by unfold rngF; rw [if_pos ⟨h.1, h.2.1, h.2.2, h0⟩]; simp
      rw [e, List.length_map]
      exact range_ok size v ls A B w hT hp hbig hls (by omega) (by omega) h0
    · obtain rfl : ls = [] := List.eq_nil_of_length_eq_zero (by omega)
      simp only [List.length_nil] at h
      obtain rfl : A = 0 := by omega
      obtain rfl : B = 0 := by omega
      have e : rngF size [] ((0 : Nat) : Int) ((0 : Nat) : Int) = [] := by simp [rngF]
      rw [e]
      exact (range_nil size v w hp).mono fun x w' ⟨h1, h2⟩ => ⟨none, 0, h1, PA.nil _, h2⟩
  · have e : rngF size ls lo hi = [] := by unfold rngF; rw [if_neg (fun h' => h ⟨h'.1, h'.2.1, h'.2.2.1⟩)]
    rw [e]
    exact (range_no size v ls lo hi w hp h).mono fun x w' ⟨h1, h2⟩ => ⟨none, 0, h1, PA.nil _, h2⟩

end Go.Proofs.YtichffdkihifpaaDoor
