/- What this text holds: a slice of bindings in memory (plain facts, no program): of each an identity and a key. What this text proves: the walk of change.twice over this program: whether two bindings have one identity. What this text proves: the walk of change.Check over this program: what is wrong with a batch. -/
import Derived.Test.YtcdikkgkjjopmaaGreatDoorFacts
import Derived.Maps.OwnSet
import Derived.Maps.Views
import Derived.WalkArith
namespace Go.Proofs.YtcdikkgkjjopmaaGreatDoor
open Go.RowKit

/-- The value v is a slice of bindings: of each its identity and its key. -/
def BA (w : World) (v : Value) (bs : List (List UInt8 × List UInt8)) : Prop :=
  ∃ (p : Option Addr) (cap : Nat), v = .slice p bs.length cap ∧ bs.length ≤ cap ∧ cap ≤ maxLen ∧
    (bs ≠ [] → ∃ b o, p = some ⟨b, o, none⟩ ∧ ∀ (k : Nat) x, bs[k]? = some x → ∃ q c r d, w.cell? ⟨b, o + k * 2, none⟩ = some (.slice q x.1.length c) ∧ w.cell? ⟨b, o + k * 2 + 1, none⟩ = some (.slice r x.2.length d) ∧ HB w (.slice q x.1.length c) x.1 ∧ HB w (.slice r x.2.length d) x.2)

theorem BA.later {w w' : World} {v : Value} {bs : List (List UInt8 × List UInt8)} (h : BA w v bs) (hb : Below w.heap.size w w') : BA w' v bs := by
  obtain ⟨p, cap, e, h1, h2, h3⟩ := h
  refine ⟨p, cap, e, h1, h2, fun hn => ?_⟩
  obtain ⟨b, o, e1, e2⟩ := h3 hn
  refine ⟨b, o, e1, fun k x hx => ?_⟩
  obtain ⟨q, c, r, d, q1, q2, q3, q4⟩ := e2 k x hx
  exact ⟨q, c, r, d, cell_later hb q1, cell_later hb q2, q3.later hb, q4.later hb⟩

theorem BA.shape {w : World} {v : Value} {bs : List (List UInt8 × List UInt8)} (h : BA w v bs) : ∃ p c, v = .slice p bs.length c := by
  obtain ⟨p, cap, e, _⟩ := h
  exact ⟨p, cap, e⟩

theorem BA.len {w : World} {p : Option Addr} {n c : Nat} {bs : List (List UInt8 × List UInt8)} (h : BA w (.slice p n c) bs) : n = bs.length ∧ n ≤ c ∧ c ≤ maxLen := by
  obtain ⟨p', cap, e, h1, h2, _⟩ := h
  simp only [Value.slice.injEq] at e
  obtain ⟨rfl, rfl, rfl⟩ := e
  exact ⟨rfl, h1, h2⟩

theorem BA.addr {w : World} {p : Option Addr} {n c : Nat} {bs : List (List UInt8 × List UInt8)} (h : BA w (.slice p n c) bs) (hn : 0 < n) : ∃ b o, p = some ⟨b, o, none⟩ := by
  obtain ⟨p', cap, e, h1, h2, h3⟩ := h
  simp only [Value.slice.injEq] at e
  obtain ⟨rfl, rfl, rfl⟩ := e
  obtain ⟨b, o, e, _⟩ := h3 (fun h => by subst h; simp at hn)
  exact ⟨b, o, e⟩

/-- One binding: its cells, and what they hold. -/
theorem BA.get {w : World} {b o n c : Nat} {bs : List (List UInt8 × List UInt8)} (h : BA w (.slice (some ⟨b, o, none⟩) n c) bs) (i : Nat) (hi : i < n) :
    ∃ x q k r d, Hid (bs[i]? = some x) ∧ w.cell? ⟨b, o + i * 2, none⟩ = some (.slice q x.1.length k) ∧ w.cell? ⟨b, o + i * 2 + 1, none⟩ = some (.slice r x.2.length d) ∧ HB w (.slice q x.1.length k) x.1 ∧ HB w (.slice r x.2.length d) x.2 := by
  obtain ⟨p', cap, e, h1, h2, h3⟩ := h
  simp only [Value.slice.injEq] at e
  obtain ⟨rfl, rfl, rfl⟩ := e
  obtain ⟨b', o', e', hc⟩ := h3 (fun e => by subst e; simp at hi)
  simp only [Option.some.injEq, Addr.mk.injEq, and_true] at e'
  obtain ⟨rfl, rfl⟩ := e'
  obtain ⟨q, k, r, d, q1, q2, q3, q4⟩ := hc i bs[i] (List.getElem?_eq_getElem hi)
  exact ⟨bs[i], q, k, r, d, List.getElem?_eq_getElem hi, q1, q2, q3, q4⟩

/-- The first ones. -/
theorem BA.take {w : World} {p : Option Addr} {n c : Nat} {bs : List (List UInt8 × List UInt8)} (h : BA w (.slice p n c) bs) (k : Nat) (hk : k ≤ n) : BA w (.slice p k c) (bs.take k) := by
  obtain ⟨p', cap, e, h1, h2, h3⟩ := h
  simp only [Value.slice.injEq] at e
  obtain ⟨rfl, rfl, rfl⟩ := e
  refine ⟨p, c, ?_, by simp; omega, h2, fun hne => ?_⟩
  · congr 1
    simp
    omega
  · obtain ⟨b, o, e, hc⟩ := h3 (fun e => by subst e; simp at hne)
    refine ⟨b, o, e, fun i x hx => hc i x ?_⟩
    rw [List.getElem?_take] at hx
    split at hx
    · exact hx
    · cases hx

theorem s_bind : (Tryz.prog.info? 62).map (·.size) = some 2 := by kernel_rfl

/-- A key of a map: an identity as text. -/
def kS (l : List UInt8) : Lit := .string l

theorem kLit (l : List UInt8) : WideAt.IsKeyLit (kS l) := True.intro

/-- The map has the identities ahead of k. -/
def hasIds (D : DataW Value) (bs : List (List UInt8 × List UInt8)) (k : Nat) : Prop := ∀ l : List UInt8, Maps.has D (kS l) = true ↔ ∃ i, ∃ x : List UInt8 × List UInt8, i < k ∧ bs[i]? = some x ∧ x.1 = l

/-- Two of the first k have one identity. -/
def two (bs : List (List UInt8 × List UInt8)) (k : Nat) : Prop := ∃ i j, ∃ x y : List UInt8 × List UInt8, i < j ∧ j < k ∧ bs[i]? = some x ∧ bs[j]? = some y ∧ x.1 = y.1

theorem hasIds_none (bs : List (List UInt8 × List UInt8)) : hasIds (.map []) bs 0 := by
  intro l
  simp [Maps.has]

theorem hasIds_put {D : DataW Value} {bs : List (List UInt8 × List UInt8)} {k : Nat} {x : List UInt8 × List UInt8} {d : DataW Value} (hm : Maps.IsMap D) (h : hasIds D bs k) (hx : bs[k]? = some x) : hasIds (D.put (kS x.1) d) bs (k + 1) := by
  intro l
  by_cases hl : l = x.1
  · subst hl
    rw [Maps.has_put_same hm (kLit _)]
    simp only [true_iff]
    exact ⟨k, x, by omega, hx, rfl⟩
  · rw [Maps.has_put_other (by simpa [kS] using hl), h l]
    constructor
    · rintro ⟨i, y, h1, h2, h3⟩
      exact ⟨i, y, by omega, h2, h3⟩
    · rintro ⟨i, y, h1, h2, h3⟩
      refine ⟨i, y, ?_, h2, h3⟩
      rcases Nat.lt_or_ge i k with hi | hi
      · exact hi
      · obtain rfl : i = k := by omega
        rw [hx] at h2
        simp only [Option.some.injEq] at h2
        subst h2
        exact absurd h3.symm hl

theorem two_hit {D : DataW Value} {bs : List (List UInt8 × List UInt8)} {k n : Nat} {x : List UInt8 × List UInt8} (h : hasIds D bs k) (hx : bs[k]? = some x) (hk : k < n) (hh : Maps.has D (kS x.1) = true) : two bs n := by
  obtain ⟨i, y, h1, h2, h3⟩ := (h x.1).1 hh
  exact ⟨i, k, y, x, h1, hk, h2, hx, h3⟩

theorem two_miss {D : DataW Value} {bs : List (List UInt8 × List UInt8)} {k : Nat} {x : List UInt8 × List UInt8} (h : hasIds D bs k) (hx : bs[k]? = some x) (hn : ¬ two bs k) (hh : Maps.has D (kS x.1) = false) : ¬ two bs (k + 1) := by
  rintro ⟨i, j, a, b, h1, h2, h3, h4, h5⟩
  rcases Nat.lt_or_ge j k with hj | hj
  · exact hn ⟨i, j, a, b, h1, hj, h3, h4, h5⟩
  · obtain rfl : j = k := by omega
    rw [hx] at h4
    simp only [Option.some.injEq] at h4
    subst h4
    have := (h x.1).2 ⟨i, a, h1, h3, h5⟩
    rw [hh] at this
    cases this

end Go.Proofs.YtcdikkgkjjopmaaGreatDoor

namespace Go.Proofs.YtcdikkgkjjopmaaGreatDoor
open Go.RowKit

set_option maxRecDepth 100000 in
set_option maxHeartbeats 2000000 in
theorem twice_any (v : Value) (bs : List (List UInt8 × List UInt8)) (w : World) (h : BA w v bs) (hbig : bs.length ≤ 1048576) :
    Calls Tryz.prog 57 #[v] w fun x w' => ∃ B : Bool, x = .returned (.bool B) ∧ (B = true ↔ two bs bs.length) ∧ Below w.heap.size w w' := by
  obtain ⟨p, c, rfl⟩ := h.shape
  have K := Maps.string_keyed (P := Tryz.prog) Tryz.underlying9
  have hmk : (w.alloc (.map #[] 0)).ownsMap (H := Value) Tryz.prog 9 (plainElem Tryz.prog 3) w.heap.size 0 (.map []) := World.ownsMap_made w _ _ _
  have hmm := @run_makeMap Tryz.prog
  go_enter Tryz.func57, Tryz.ntmps57
  go_wp2
  go_loopw [11] (fun i wr => ∃ (k : Nat) (D : DataW Value), k ≤ bs.length ∧ i = .int .i64 (k : Int) ∧ wr.ownsMap Tryz.prog 9 (plainElem Tryz.prog 3) w.heap.size k D ∧ Hid (hasIds D bs k ∧ ¬ two bs k) ∧ Below w.heap.size w wr) (fun i _ => bs.length - (intOf i).toNat)
  case atStart => exact ⟨0, .map [], Nat.zero_le _, rfl, hmk, ⟨hasIds_none bs, fun ⟨i, j, _, _, h1, h2, _⟩ => by omega⟩, (Below.refl _ _).alloc (Nat.le_refl _) _⟩
  case round =>
    clear hmk
    obtain ⟨k, D, hk, rfl, ho, hH, hb⟩ := hrel
    have hsz := hb.size
    by_cases hlt : k < bs.length
    · obtain ⟨bl, o, rfl⟩ := h.addr (by omega)
      obtain ⟨x, q, kc, r, d, hx, c1, c2, h1, h2⟩ := h.get k hlt
      have hlt2 : (k : Int) < (bs.length : Int) := by omega
      have e1 := cell_later hb c1
      have e2 := cell_later hb c2
      have bA := (Below.refl wr.heap.size wr).alloc (Nat.le_refl _) (.cells #[.slice q x.1.length kc, .slice r x.2.length d] 62)
      have oA := ho.alloc (.cells #[.slice q x.1.length kc, .slice r x.2.length d] 62)
      have hS := ((h1.later hb).later bA).str (P := Tryz.prog) 27 5 9 Tryz.underlying27 Tryz.underlying5 Tryz.underlying9
      have hxl : x.1.length ≤ maxLen := h1.len_le
      have hkey : keyOf Tryz.prog 9 (.string ⟨x.1.toArray⟩) = some (kS x.1) := by
        rw [WideMaps.keyOf_string_mk Tryz.underlying9 (show (ByteArray.mk x.1.toArray).size ≤ maxLen from hxl)]
        rfl
      obtain ⟨va, pa, hrun, _⟩ := oA.look_ok K Tryz.underlying112 (z := .int .i64 0) (by rfl) (plainElem_int Tryz.underlying3 (by decide)) hkey
      cases hh : Maps.has D (kS x.1) with
      | true =>
        rw [hh] at hrun
        have HT : Hid (two bs bs.length) := two_hit hH.out.1 hx hlt hh
        have HB1 : Hid (Below w.heap.size w (wr.alloc (.cells #[.slice q x.1.length kc, .slice r x.2.length d] 62))) := hb.alloc hsz _
        clear hH hx h1 h2 bA oA hkey c1 c2 hh ho
        go_wp2
        go_ret
        exact ⟨true, rfl, by simpa using HT.out, HB1.out⟩
      | false =>
        rw [hh] at hrun
        have HN : Hid (¬ two bs (k + 1)) := two_miss hH.out.1 hx hH.out.2 hh
        have HI : Hid (hasIds (D.put (kS x.1) (.lit (.int .i64 (k : Int)))) bs (k + 1)) := hasIds_put ho.isMap hH.out.1 hx
        have hwf : (Lit.int .i64 (k : Int)).wf = true := Go.WalkArith.wf_i64 (by omega)
        have hb1 := hb.alloc hsz (.cells #[.slice q x.1.length kc, .slice r x.2.length d] 62)
        clear hH hx h1 h2 bA c1 c2 hh ho
        go_wp2_with (first | (at_mapUpdate; refine wpList_mapUpdate_own _ rfl _ _ _ 112 rfl 9 3 K Tryz.underlying112 _ w.heap.size k D rfl oA (by unfold maxLen; omega) _ _ (kS x.1) rfl rfl hkey (.lit (.int .i64 (k : Int))) [] (plainElem_int Tryz.underlying3 hwf) ?_) | go_in)
        intro w3 o3 g3
        have b3 : Below w.heap.size w w3 := hb1.grown g3 (by simp; omega) (fun j hj => by cases hj; exact Nat.le_refl _)
        clear oA g3 hb1 hrun hS e1 e2
        go_wp2
        go_roundw
        case rel => exact ⟨k + 1, _, by omega, by go_num, o3, ⟨HI.out, HN.out⟩, b3⟩
        case measure => simp [intOf]; omega
    · obtain rfl : k = bs.length := by omega
      have HN : Hid (¬ two bs bs.length) := hH.out.2
      clear hH ho
      go_wp2
      go_ret
      exact ⟨false, rfl, by simpa using HN.out, hb⟩

end Go.Proofs.YtcdikkgkjjopmaaGreatDoor

namespace Go.Proofs.YtcdikkgkjjopmaaGreatDoor
open Go.RowKit

/-- Whether an identity or a key is too long. -/
def longB (mi mk : Int) (bs : List (List UInt8 × List UInt8)) : Prop := ∃ x ∈ bs, mi < (x.1.length : Int) ∨ mk < (x.2.length : Int)

/-- What is wrong with a batch. -/
def ChkIs (mi mk : Int) (bs : List (List UInt8 × List UInt8)) (e : Int) : Prop :=
  (bs = [] ∧ e = 82) ∨ (32 < bs.length ∧ e = 4) ∨ (bs ≠ [] ∧ bs.length ≤ 32 ∧ longB mi mk bs ∧ e = 1) ∨ (bs ≠ [] ∧ bs.length ≤ 32 ∧ ¬ longB mi mk bs ∧ two bs bs.length ∧ e = 80) ∨ (bs ≠ [] ∧ bs.length ≤ 32 ∧ ¬ longB mi mk bs ∧ ¬ two bs bs.length ∧ e = 0)

theorem chk_one {mi mk : Int} {bs : List (List UInt8 × List UInt8)} {e f : Int} (h1 : ChkIs mi mk bs e) (h2 : ChkIs mi mk bs f) : e = f := by
  rcases h1 with ⟨a, rfl⟩ | ⟨a, rfl⟩ | ⟨a, b, c, rfl⟩ | ⟨a, b, c, d, rfl⟩ | ⟨a, b, c, d, rfl⟩ <;>
  rcases h2 with ⟨a', rfl⟩ | ⟨a', rfl⟩ | ⟨a', b', c', rfl⟩ | ⟨a', b', c', d', rfl⟩ | ⟨a', b', c', d', rfl⟩ <;>
  first | rfl | (exfalso; first | contradiction | omega | (subst_vars; simp at *))

/-- The parameters as they are handed in. -/
def parV (a b mi mk c d e f : Int) : Value := .agg #[.int .i64 a, .int .i64 b, .int .i64 mi, .int .i64 mk, .int .i64 c, .int .i64 d, .int .i64 e, .int .i64 f]

set_option maxRecDepth 100000 in
set_option maxHeartbeats 2000000 in
theorem check_any (a b mi mk c' d' e' f' : Int) (v : Value) (bs : List (List UInt8 × List UInt8)) (w : World) (h : BA w v bs) :
    Calls Tryz.prog 36 #[.agg #[.int .i64 a, .int .i64 b, .int .i64 mi, .int .i64 mk, .int .i64 c', .int .i64 d', .int .i64 e', .int .i64 f'], v] w fun x w' => ∃ e, x = .returned (.int .i64 e) ∧ ChkIs mi mk bs e ∧ Below w.heap.size w w' := by
  obtain ⟨p, c, rfl⟩ := h.shape
  have hlen := h.len.2
  unfold maxLen at hlen
  have b0 := (Below.refl w.heap.size w).alloc (Nat.le_refl _) (.cells #[.int .i64 a, .int .i64 b, .int .i64 mi, .int .i64 mk, .int .i64 c', .int .i64 d', .int .i64 e', .int .i64 f'] 23)
  have g0 := heap_alloc_new w (.cells #[.int .i64 a, .int .i64 b, .int .i64 mi, .int .i64 mk, .int .i64 c', .int .i64 d', .int .i64 e', .int .i64 f'] 23)
  have s0 : (w.alloc (.cells #[.int .i64 a, .int .i64 b, .int .i64 mi, .int .i64 mk, .int .i64 c', .int .i64 d', .int .i64 e', .int .i64 f'] 23)).heap.size = w.heap.size + 1 := by simp
  obtain ⟨V, hV⟩ : ∃ V, V = w.alloc (.cells #[.int .i64 a, .int .i64 b, .int .i64 mi, .int .i64 mk, .int .i64 c', .int .i64 d', .int .i64 e', .int .i64 f'] 23) := ⟨_, rfl⟩
  rw [← hV] at b0 g0 s0
  have hV1 := h.later b0
  have hTw := fun W (hB : Below V.heap.size V W) (hbig : bs.length ≤ 1048576) => twice_any (.slice p bs.length c) bs W (hV1.later hB) hbig
  clear h
  by_cases hz : bs.length = 0
  · have H : Hid (ChkIs mi mk bs 82) := .inl ⟨List.eq_nil_of_length_eq_zero hz, rfl⟩
    have n0 : ((bs.length : Int) == 0) = true := beq_iff_eq.2 (by omega)
    clear hTw hV1 g0
    go_enter Tryz.func36, Tryz.ntmps36
    go_wp2
    rw [← hV]
    go_ret
    exact ⟨_, rfl, H.out, b0⟩
  · have n0 : ((bs.length : Int) == 0) = false := beq_eq_false_iff_ne.2 (by omega)
    by_cases h32 : 32 < bs.length
    · have H : Hid (ChkIs mi mk bs 4) := .inr (.inl ⟨h32, rfl⟩)
      have n1 : (32 : Int) < (bs.length : Int) := by omega
      clear hTw hV1 g0 hz
      go_enter Tryz.func36, Tryz.ntmps36
      go_wp2
      rw [← hV]
      go_ret
      exact ⟨_, rfl, H.out, b0⟩
    · have n1 : decide ((32 : Int) < (bs.length : Int)) = false := by simp; omega
      have hne : Hid (bs ≠ []) := fun e => hz (by rw [e]; rfl)
      clear hz
      go_enter Tryz.func36, Tryz.ntmps36
      go_wp2
      rw [← hV]
      clear hV
      go_loopw [15] (fun i wr => ∃ k : Nat, k ≤ bs.length ∧ i = .int .i64 (k : Int) ∧ Hid (¬ longB mi mk (bs.take k)) ∧ Below V.heap.size V wr) (fun i _ => bs.length - (intOf i).toNat)
      case atStart => exact ⟨0, Nat.zero_le _, rfl, (by rintro ⟨x, hx, _⟩; simp at hx), Below.refl _ _⟩
      case round =>
        obtain ⟨k, hk, rfl, hH, hb⟩ := hrel
        have hsz := hb.size
        by_cases hlt : k < bs.length
        · obtain ⟨bl, o, rfl⟩ := hV1.addr (by omega)
          obtain ⟨x, q, kc, r, d, hx, c1, c2, h1, h2⟩ := hV1.get k hlt
          have hlt2 : (k : Int) < (bs.length : Int) := by omega
          have e1 := cell_later hb c1
          have e2 := cell_later hb c2
          have gW : wr.heap[w.heap.size]? = some (.cells #[.int .i64 a, .int .i64 b, .int .i64 mi, .int .i64 mk, .int .i64 c', .int .i64 d', .int .i64 e', .int .i64 f'] 23 (0, 0)) := (hb.block _ (by omega)).trans g0
          have bA := (Below.refl wr.heap.size wr).alloc (Nat.le_refl _) (.cells #[.slice q x.1.length kc, .slice r x.2.length d] 62)
          have gA : (wr.alloc (.cells #[.slice q x.1.length kc, .slice r x.2.length d] 62)).heap[w.heap.size]? = some (.cells #[.int .i64 a, .int .i64 b, .int .i64 mi, .int .i64 mk, .int .i64 c', .int .i64 d', .int .i64 e', .int .i64 f'] 23 (0, 0)) := (bA.block _ (by omega)).trans gW
          have p2 : (wr.alloc (.cells #[.slice q x.1.length kc, .slice r x.2.length d] 62)).cell? ⟨w.heap.size, 2, none⟩ = some (.int .i64 mi) := by rw [cell_of_row _ _ 2 _ _ _ gA]; rfl
          have p3 : (wr.alloc (.cells #[.slice q x.1.length kc, .slice r x.2.length d] 62)).cell? ⟨w.heap.size, 3, none⟩ = some (.int .i64 mk) := by rw [cell_of_row _ _ 3 _ _ _ gA]; rfl
          have hb1 := hb.alloc hsz (.cells #[.slice q x.1.length kc, .slice r x.2.length d] 62)
          have htk : bs.take (k + 1) = bs.take k ++ [x] := by rw [List.take_add_one, hx]; rfl
          have hmem : x ∈ bs := List.mem_of_getElem? hx
          by_cases l1 : mi < (x.1.length : Int)
          · have H : Hid (ChkIs mi mk bs 1) := .inr (.inr (.inl ⟨hne.out, by omega, ⟨x, hmem, .inl l1⟩, rfl⟩))
            have HB0 : Hid (Below w.heap.size w (wr.alloc (.cells #[.slice q x.1.length kc, .slice r x.2.length d] 62))) := b0.trans (hb1.mono (by omega))
            clear hH hx h1 h2 bA c1 c2 htk hmem gA gW g0 hTw hV1 hne hb hb1
            go_wp2
            go_ret
            exact ⟨_, rfl, H.out, HB0.out⟩
          · have d1 : decide (mi < (x.1.length : Int)) = false := by simpa using l1
            by_cases l2 : mk < (x.2.length : Int)
            · have H : Hid (ChkIs mi mk bs 1) := .inr (.inr (.inl ⟨hne.out, by omega, ⟨x, hmem, .inr l2⟩, rfl⟩))
              have HB0 : Hid (Below w.heap.size w (wr.alloc (.cells #[.slice q x.1.length kc, .slice r x.2.length d] 62))) := b0.trans (hb1.mono (by omega))
              clear hH hx h1 h2 bA c1 c2 htk hmem gA gW g0 hTw hV1 hne hb hb1
              go_wp2
              go_ret
              exact ⟨_, rfl, H.out, HB0.out⟩
            · have d2 : decide (mk < (x.2.length : Int)) = false := by simpa using l2
              have HL : Hid (¬ longB mi mk (bs.take (k + 1))) := by
                rintro ⟨y, hy, hl⟩
                rw [htk] at hy
                rcases List.mem_append.1 hy with hy | hy
                · exact hH.out ⟨y, hy, hl⟩
                · simp at hy
                  subst hy
                  omega
              clear hH hx h1 h2 bA c1 c2 htk hmem gA gW g0 hTw hV1 hne hb
              go_wp2
              go_roundw
              case rel => exact ⟨k + 1, by omega, by go_num, HL.out, hb1⟩
              case measure => simp [intOf]; omega
        · obtain rfl : k = bs.length := by omega
          have HL := hH.out
          rw [List.take_length] at HL
          have HL' : Hid (¬ longB mi mk bs) := HL
          have hTw' := hTw wr hb (by omega)
          clear hTw hH HL hV1 g0
          go_wp2_with fail
          refine hTw'.mono ?_
          rintro r w2 ⟨B, rfl, hB, hb2⟩
          clear hTw'
          have hb3 := (b0.trans (hb.mono (by omega))).trans (hb2.mono (by omega))
          cases B with
          | true =>
            have H : Hid (ChkIs mi mk bs 80) := .inr (.inr (.inr (.inl ⟨hne.out, by omega, HL'.out, hB.1 rfl, rfl⟩)))
            clear hB HL' hne
            go_wp2
            go_ret
            exact ⟨_, rfl, H.out, hb3⟩
          | false =>
            have H : Hid (ChkIs mi mk bs 0) := .inr (.inr (.inr (.inr ⟨hne.out, by omega, HL'.out, (fun h => absurd (hB.2 h) (by decide)), rfl⟩)))
            clear hB HL' hne
            go_wp2
            go_ret
            exact ⟨_, rfl, H.out, hb3⟩

end Go.Proofs.YtcdikkgkjjopmaaGreatDoor
