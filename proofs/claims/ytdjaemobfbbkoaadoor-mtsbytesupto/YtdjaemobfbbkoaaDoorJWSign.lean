/- What this text proves: the walk of wots.Sign over this program: any digest signed, or the error. -/
import Derived.Test.YtdjaemobfbbkoaaDoorJWRec
namespace Go.Proofs.YtdjaemobfbbkoaaDoor
open Go.RowKit

/-- Bytes lie in no block whose cells are slices. -/
theorem HB.notRow {w : World} {base e g N : Nat} {vs : List Value} {v : Value} {l : List UInt8} (h : HB w v l) (ho : w.ownsRow base e 1 (.slice (some ⟨g, 0, none⟩) N N) N vs) (hs : ∀ (j : Nat) u, vs[j]? = some u → ∃ p n c, u = .slice p n c) (k : Nat) (u : Value) : HB (w.setCell ⟨g, k, none⟩ u) v l := by
  obtain ⟨p, c, rfl⟩ := h.shape
  by_cases hn : l = []
  · subst hn
    have := h.len
    exact HB.empty _ p c this.2.2.1 this.2.2.2
  · obtain ⟨b, o, rfl, hc⟩ := h.addr (List.length_pos_iff.2 hn)
    refine h.setOther _ u ?_
    intro hbg
    simp only at hbg
    subst hbg
    obtain ⟨x, hx⟩ : ∃ x, l[0]? = some x := ⟨l[0]'(List.length_pos_iff.2 hn), List.getElem?_eq_getElem _⟩
    have c0 := hc 0 x hx
    rw [Nat.add_zero] at c0
    obtain ⟨_, h2⟩ := ho
    rcases h2 with ⟨e1, _⟩ | ⟨g', cap, cur, e1, _, hg, hle, _, hsz, ht⟩
    · cases e1
    · simp only [Value.slice.injEq, Option.some.injEq, Addr.mk.injEq, and_true, true_and] at e1
      obtain ⟨rfl, rfl⟩ := e1
      rw [cell_of_row w b o cur e (0, 0) hg] at c0
      have e2 : vs[o]? = some (bc x) := by
        rw [← ht, List.take_of_length_le (by simp; omega)]
        simpa using c0
      obtain ⟨_, _, _, e3⟩ := hs o _ e2
      simp [bc] at e3

/-- A list of N rows of bytes that the call owns: the first k are told, the others are slices. -/
def SG (w : World) (base g N k : Nat) (sig : Nat → List UInt8) : Prop :=
  ∃ vs : List Value, w.ownsRow base 22 1 (.slice (some ⟨g, 0, none⟩) N N) N vs ∧ (∀ (j : Nat) u, vs[j]? = some u → ∃ p n c, u = .slice p n c) ∧ ∀ (j : Nat) u, j < k → vs[j]? = some u → HB w u (sig j)

theorem SG.later {w w' : World} {base g N k : Nat} {sig : Nat → List UInt8} (h : SG w base g N k sig) (hb : Below w.heap.size w w') : SG w' base g N k sig := by
  obtain ⟨vs, h1, h2, h3⟩ := h
  exact ⟨vs, owns_later h1 hb, h2, fun j u hj hu => (h3 j u hj hu).later hb⟩

theorem SG.put {w : World} {base g N k : Nat} {sig : Nat → List UInt8} (h : SG w base g N k sig) (p : Option Addr) (n c : Nat) (hx : HB w (.slice p n c) (sig k)) : SG (w.setCell ⟨g, k, none⟩ (.slice p n c)) base g N (k + 1) sig := by
  obtain ⟨vs, h1, h2, h3⟩ := h
  refine ⟨vs.set k (.slice p n c), (h1.stored k _).1, fun j u hu => ?_, fun j u hj hu => ?_⟩
  · by_cases hjk : k = j
    · subst hjk
      rw [List.getElem?_set_self'] at hu
      cases hv : vs[k]? with
      | none => rw [hv] at hu; simp at hu
      | some y => rw [hv] at hu; simp at hu; exact ⟨p, n, c, hu.symm⟩
    · rw [List.getElem?_set_ne hjk] at hu
      exact h2 j u hu
  · by_cases hjk : k = j
    · subst hjk
      rw [List.getElem?_set_self'] at hu
      cases hv : vs[k]? with
      | none => rw [hv] at hu; simp at hu
      | some y =>
        rw [hv] at hu
        simp at hu
        subst hu
        exact hx.notRow h1 h2 k _
    · rw [List.getElem?_set_ne hjk] at hu
      exact (h3 j u (by omega) hu).notRow h1 h2 k _

theorem SG.pa {w : World} {base g N : Nat} {sig : Nat → List UInt8} (h : SG w base g N N sig) : PA w (.slice (some ⟨g, 0, none⟩) N N) ((List.range N).map sig) := by
  obtain ⟨vs, h1, h2, h3⟩ := h
  have hl := h1.1
  obtain ⟨_, q⟩ := h1
  rcases q with ⟨e1, _⟩ | ⟨g', cap, cur, e1, hb, hg, hle, hm, hsz, ht⟩
  · cases e1
  · simp only [Value.slice.injEq, Option.some.injEq, Addr.mk.injEq, and_true, true_and] at e1
    obtain ⟨rfl, rfl⟩ := e1
    rw [Nat.mul_one] at hl
    refine ⟨_, N, vs, by simp, by simp, hm, (fun h => by cases h), by simp [hl], fun _ => ⟨g, 0, rfl, fun i x hx => ?_⟩, fun i x l hx hl' => ?_⟩
    · rw [Nat.zero_add, cell_of_row w g i cur 22 (0, 0) hg]
      have hi : i < vs.length := (List.getElem?_eq_some_iff.1 hx).1
      rw [← ht, List.getElem?_take, if_pos (by omega)] at hx
      simpa using hx
    · have hi : i < vs.length := (List.getElem?_eq_some_iff.1 hx).1
      have e2 : l = sig i := by
        rw [List.getElem?_map, List.getElem?_range (by omega)] at hl'
        simpa using hl'.symm
      rw [e2]
      exact h3 i x (by omega) hx

/-- Chain i of a signature. -/
def sigC (n : Nat) (seed : List UInt8) (index : Int) (ds : List Nat) (i : Nat) : List UInt8 := chainF n (secretF n seed index i) index i 0 ((ds.getD i 0 : Nat) : Int)
def signW (n : Nat) (seed : List UInt8) (index : Int) (D : List UInt8) : List (List UInt8) := (List.range (4 * n + 5)).map (sigC n seed index (digF D))

set_option maxRecDepth 100000 in
set_option maxHeartbeats 4000000 in
theorem sign_ok (n : Nat) (index : Int) (v u : Value) (seed D : List UInt8) (w : World) (h : HB w v seed) (hD : HB w u D) (hs : D.length = n) (hse : seed.length ≤ 64) (hn : 1 ≤ n) (hn2 : n ≤ 32) (hi : 0 ≤ index) (hi2 : index < 256) (hT : Tabs w) :
    Calls Tryd.prog 23 #[.int .i64 (n : Int), v, .int .i64 index, u] w fun e w' => ∃ x, e = .returned (.tuple #[x, .int .i64 0]) ∧ PA w' x (signW n seed index D) ∧ Below w.heap.size w w' := by
  obtain ⟨p, c, rfl⟩ := h.shape
  obtain ⟨q, d, rfl⟩ := hD.shape
  have hc : canB n index = true := by simp [canB]; omega
  have hC := fun w' => can_any n index w'
  rw [hc] at hC
  have hse2 : (seed.length : Int) ≤ 64 := by omega
  have hCC := fun w' => chaincount_any n w' (by omega)
  have HdL : Hid ((digF D).length = 4 * n + 5) := by
    show (digF D).length = _
    rw [digF_length, hs]
    omega
  have hDg := fun w' h' => digits_any (.slice q n d) D w' h'
  rw [HdL.out] at hDg
  have HDl := digF_le D
  rw [hs] at hD ⊢
  have HK : Hid (signW n seed index D = (List.range (4 * n + 5)).map (sigC n seed index (digF D))) := rfl
  generalize signW n seed index D = K at *
  clear hc hs
  generalize digF D = ds at *
  have hS := fun (i : Nat) w' h' hT' => secret_any n index i (.slice p seed.length c) seed w' h' hT'
  have hCh := fun (i : Nat) v w' h' hT' => chain_any n index i 0 ((ds.getD i 0 : Nat) : Int) v (secretF n seed index i) w' h' (by have := hashF_len n 6 [seed, numB index, numB i]; unfold secretF; omega) hT' (by omega)
  have HCh : Hid (∀ (i : Nat) v w', HB w' v (secretF n seed index i) → Tabs w' → Calls Tryd.prog 47 #[.int .i64 (n : Int), v, .int .i64 index, .int .i64 (i : Int), .int .i64 0, .int .i64 ((ds.getD i 0 : Nat) : Int)] w' fun e w'' => ∃ p c, e = .returned (.slice p (sigC n seed index ds i).length c) ∧ HB w'' (.slice p (sigC n seed index ds i).length c) (sigC n seed index ds i) ∧ Below w'.heap.size w' w'') := hCh
  have HS : Hid (∀ (i : Nat) w', HB w' (.slice p seed.length c) seed → Tabs w' → Calls Tryd.prog 48 #[.int .i64 (n : Int), .slice p seed.length c, .int .i64 index, .int .i64 (i : Int)] w' fun e w'' => ∃ p c, e = .returned (.slice p (secretF n seed index i).length c) ∧ HB w'' (.slice p (secretF n seed index i).length c) (secretF n seed index i) ∧ Below w'.heap.size w' w'') := hS
  clear hS hCh
  generalize sigC n seed index ds = sig at *
  obtain ⟨i0, hi0, hz0, hz1, hz2⟩ := info_parts i_bytes
  go_enter Tryd.func23, Tryd.ntmps23
  go_wp2_with fail
  refine (hC _).mono ?_
  rintro e w1 ⟨rfl, hw1⟩
  have hw2 := hw1.symm
  clear hw1
  subst hw2
  go_wp2_with fail
  refine (hCC _).mono ?_
  rintro e w1 ⟨rfl, hw1⟩
  have hw2 := hw1.symm
  clear hw1
  subst hw2
  go_wp2_with (at_make; refine wpList_make_full _ rfl _ _ 28 rfl w.heap.size 22 i0 (.slice none 0 0) 1 Tryd.underlying28 hi0 hz0 hz1 .i64 .i64 _ _ (4 * n + 5) rfl rfl ?qa ?qb ?qc ?qd ?qe ?_)
  all_goals (try (first | omega | (unfold maxLen; omega) | (rw [hz2]; omega)))
  intro w1 hown1 hgrow1
  have hb1 : Below w.heap.size w w1 := (Below.refl _ w).grown hgrow1 (Nat.le_refl _) (by intro k hk; cases hk)
  have hgl := (hown1.lt _ rfl).2
  have hsg1 : SG w1 w.heap.size w.heap.size (4 * n + 5) 0 sig := by
    refine ⟨_, hown1, fun j u hu => ?_, fun j u hj => by omega⟩
    rw [toList_madeCells_one] at hu
    have := List.mem_of_getElem? hu
    rw [List.mem_replicate] at this
    exact ⟨none, 0, 0, this.2⟩
  clear hown1 hgrow1 hC hCC
  go_wp2_with fail
  refine (hDg _ (hD.later hb1)).mono ?_
  rintro e w2 ⟨v2, rfl, o2, hb2⟩
  have hsg2 := hsg1.later hb2
  have hb02 := hb1.trans (hb2.mono hb1.size)
  have i2 := IA.of_owns o2
  obtain ⟨p2, c2, hv2⟩ := i2.shape
  rw [HdL.out] at hv2
  subst hv2
  obtain ⟨bd, od, rfl, fd⟩ := i2.addr (by omega)
  have hbd : w1.heap.size ≤ bd := (o2.lt _ rfl).1
  have hgl2 : w.heap.size < w1.heap.size := hgl
  have hcells2 : ∀ j, j < 4 * n + 5 → w2.cell? ⟨bd, od + j, none⟩ = some (.int .i64 ((ds.getD j 0 : Nat) : Int)) := fun j hj => fd j _ (by rw [List.getD_eq_getElem?_getD, List.getElem?_eq_getElem (by rw [HdL.out]; omega)]; rfl)
  have hne : bd ≠ w.heap.size := by omega
  clear o2 i2 fd hb2 hb1 hsg1 hDg hgl hgl2 hbd hD
  go_wp2
  go_loopw [34] (fun i wr => ∃ k : Nat, k ≤ 4 * n + 5 ∧ i = .int .i64 k ∧ SG wr w.heap.size w.heap.size (4 * n + 5) k sig ∧ (∀ j, j < 4 * n + 5 → wr.cell? ⟨bd, od + j, none⟩ = some (.int .i64 ((ds.getD j 0 : Nat) : Int))) ∧ Below w.heap.size w wr) (fun i _ => 4 * n + 5 - (intOf i).toNat)
  case atStart => exact ⟨0, Nat.zero_le _, rfl, hsg2, hcells2, hb02⟩
  case round =>
    obtain ⟨k, hk, rfl, hsg, hcells, hbe⟩ := hrel
    clear hsg2 hcells2 hb02
    by_cases hlt : k < 4 * n + 5
    · have hlt2 : (k : Int) < 4 * (n : Int) + 5 := by omega
      have ck := hcells k hlt
      have hS := HS.out k
      have hCh := HCh.out k
      generalize secretF (n : Int) seed index (k : Int) = S at *
      have hsz := hbe.size
      go_wp2_with fail
      refine (hS _ (h.later hbe) (hT.later hbe)).mono ?_
      rintro e w3 ⟨p3, c3, rfl, h3, hb3⟩
      have hb03 := hbe.trans (hb3.mono hsz)
      have hsg3 := hsg.later hb3
      have hcells3 : ∀ j, j < 4 * n + 5 → w3.cell? ⟨bd, od + j, none⟩ = some (.int .i64 ((ds.getD j 0 : Nat) : Int)) := fun j hj => cell_later hb3 (hcells j hj)
      clear hsg hcells ck hb3 hS
      go_wp2_with fail
      refine (hCh _ _ h3 (hT.later hb03)).mono ?_
      rintro e w4 ⟨p4, c4, rfl, h4, hb4⟩
      have hb04 := hb03.trans (hb4.mono hb03.size)
      have hsg4 := hsg3.later hb4
      have hcells4 : ∀ j, j < 4 * n + 5 → w4.cell? ⟨bd, od + j, none⟩ = some (.int .i64 ((ds.getD j 0 : Nat) : Int)) := fun j hj => cell_later hb4 (hcells3 j hj)
      clear hsg3 hcells3 hb4 hCh h3 hb03 hbe
      obtain ⟨y, cy, fy⟩ : ∃ y, w4.cell? ⟨w.heap.size, k, none⟩ = some y ∧ w4.frozen? ⟨w.heap.size, k, none⟩ = false := by
        obtain ⟨vs, q1, _, _⟩ := hsg4
        have hl := q1.1
        rw [Nat.mul_one] at hl
        have hc := q1.cellAt k (by omega)
        rw [List.getElem?_eq_getElem (by omega)] at hc
        exact ⟨_, hc, q1.frozenAt k⟩
      have hsg5 := hsg4.put p4 (sig k).length c4 h4
      have hcells5 : ∀ j, j < 4 * n + 5 → (w4.setCell ⟨w.heap.size, k, none⟩ (.slice p4 (sig k).length c4)).cell? ⟨bd, od + j, none⟩ = some (.int .i64 ((ds.getD j 0 : Nat) : Int)) := fun j hj => (World.cell?_setCell_other _ _ _ _ (by intro e; exact hne (congrArg Addr.block e).symm)).trans (hcells4 j hj)
      have hb05 : Below w.heap.size w (w4.setCell ⟨w.heap.size, k, none⟩ (.slice p4 (sig k).length c4)) := hb04.setCell (Nat.le_refl _) _
      clear hsg4 hcells4 hb04 h4
      go_wp2
      go_roundw
      case rel => first | exact ⟨k + 1, by omega, by go_num, hsg5, hcells5, hb05⟩ | ((repeat apply Exists.intro); exact ⟨⟨k + 1, by omega, by go_num, hsg5, hcells5, hb05⟩, rfl⟩)
      case measure => simp [intOf]; omega
    · obtain rfl : k = 4 * n + 5 := by omega
      have hp := hsg.pa
      rw [← HK.out] at hp
      clear hsg hcells
      go_wp2
      go_ret2
      exact ⟨_, rfl, hp, hbe⟩

set_option maxRecDepth 100000 in
set_option maxHeartbeats 1000000 in
theorem sign_err (size index : Int) (v u : Value) (seed D : List UInt8) (w : World) (h : HB w v seed) (hD : HB w u D) (hbad : canB size index = false ∨ 64 < seed.length ∨ (D.length : Int) ≠ size) :
    Calls Tryd.prog 23 #[.int .i64 size, v, .int .i64 index, u] w fun e w' => e = .returned (.tuple #[.slice none 0 0, .int .i64 1]) ∧ w' = w := by
  obtain ⟨p, c, rfl⟩ := h.shape
  obtain ⟨q, d, rfl⟩ := hD.shape
  have hdm := hD.len.2
  have hsm := h.len.2
  unfold maxLen at hdm hsm
  have hC := fun w' => can_any size index w'
  cases hb : canB size index with
  | false =>
    rw [hb] at hC
    clear hbad
    go_enter Tryd.func23, Tryd.ntmps23
    go_wp2_with fail
    refine (hC _).mono ?_
    rintro e w1 ⟨rfl, hw1⟩
    subst hw1
    go_wp2
    go_ret2
    exact ⟨rfl, rfl⟩
  | true =>
    rw [hb] at hC
    by_cases hse : 64 < seed.length
    · have hse2 : 64 < (seed.length : Int) := by omega
      clear hbad
      go_enter Tryd.func23, Tryd.ntmps23
      go_wp2_with fail
      refine (hC _).mono ?_
      rintro e w1 ⟨rfl, hw1⟩
      subst hw1
      go_wp2
      go_ret2
      exact ⟨rfl, rfl⟩
    · have hse2 : (seed.length : Int) ≤ 64 := by omega
      have hdl : ¬ (D.length : Int) = size := by
        rcases hbad with h | h | h
        · rw [hb] at h; cases h
        · omega
        · exact h
      have hdl2 : ((D.length : Int) != size) = true := by simpa using hdl
      have hse3 : decide (64 < (seed.length : Int)) = false := by simpa using hse2
      clear hbad hb hdl
      go_enter Tryd.func23, Tryd.ntmps23
      go_wp2_with fail
      refine (hC _).mono ?_
      rintro e w1 ⟨rfl, hw1⟩
      subst hw1
      go_wp2
      go_ret2
      exact ⟨rfl, rfl⟩

end Go.Proofs.YtdjaemobfbbkoaaDoor
