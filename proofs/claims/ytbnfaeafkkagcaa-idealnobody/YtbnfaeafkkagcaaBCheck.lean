/- What this text proves: the walk of change.Check over this program: what is wrong with a batch. -/
import Derived.Test.YtbnfaeafkkagcaaBTwice
namespace Go.Proofs.Ytbnfaeafkkagcaa
open Go.RowKit

/-- Whether an identity or a key is too long. -/
def longB (mi mk : Int) (bs : List (List UInt8 × List UInt8)) : Prop := ∃ x ∈ bs, mi < (x.1.length : Int) ∨ mk < (x.2.length : Int)

/-- What is wrong with a batch. -/
def ChkIs (mi mk : Int) (bs : List (List UInt8 × List UInt8)) (e : Int) : Prop :=
  (bs = [] ∧ e = 82) ∨ (32 < bs.length ∧ e = 4) ∨ (bs ≠ [] ∧ bs.length ≤ 32 ∧ longB mi mk bs ∧ e = 1) ∨ (bs ≠ [] ∧ bs.length ≤ 32 ∧ ¬ longB mi mk bs ∧ two bs bs.length ∧ e = 80) ∨ (bs ≠ [] ∧ bs.length ≤ 32 ∧ ¬ longB mi mk bs ∧ ¬ two bs bs.length ∧ e = 0)

theorem chk_one {mi mk : Int} {bs : List (List UInt8 × List UInt8)} {e f : Int} (h1 : ChkIs mi mk bs e) (h2 : ChkIs mi mk bs f) : e = f := by
  rcases h1 with ⟨a, rfl⟩ | ⟨a, rfl⟩ | ⟨a, b, c, rfl⟩ | ⟨a, b, c, d, rfl⟩ | ⟨a, b, c, d, rfl⟩ <;>
  rcases h2 with ⟨a', rfl⟩ | ⟨a', rfl⟩ | ⟨a', b', c', rfl⟩ | ⟨a', b', c', d', rfl⟩ | ⟨a', b', c', d', rfl⟩ <;>
  first | rfl | (exfalso; first | contradiction | omega | (subst_vars; simp at *))

/-- The parameters as they are handed in. -/
def parV (a b mi mk c d e f : Int) : Value := .agg #[.int .i64 a, .int .i64 b, .int .i64 mi, .int .i64 mk, .int .i64 c, .int .i64 d, .int .i64 e, .int .i64 f]

set_option maxRecDepth 100000 in
set_option maxHeartbeats 2000000 in
theorem check_any (a b mi mk c' d' e' f' : Int) (v : Value) (bs : List (List UInt8 × List UInt8)) (w : World) (h : BA w v bs) :
    Calls Try.prog 37 #[.agg #[.int .i64 a, .int .i64 b, .int .i64 mi, .int .i64 mk, .int .i64 c', .int .i64 d', .int .i64 e', .int .i64 f'], v] w fun x w' => ∃ e, x = .returned (.int .i64 e) ∧ ChkIs mi mk bs e ∧ Below w.heap.size w w' := by
  obtain ⟨p, c, rfl⟩ := h.shape
  have hlen := h.len.2
  unfold maxLen at hlen
  have b0 := (Below.refl w.heap.size w).alloc (Nat.le_refl _) (.cells #[.int .i64 a, .int .i64 b, .int .i64 mi, .int .i64 mk, .int .i64 c', .int .i64 d', .int .i64 e', .int .i64 f'] 28)
  have g0 := heap_alloc_new w (.cells #[.int .i64 a, .int .i64 b, .int .i64 mi, .int .i64 mk, .int .i64 c', .int .i64 d', .int .i64 e', .int .i64 f'] 28)
  have s0 : (w.alloc (.cells #[.int .i64 a, .int .i64 b, .int .i64 mi, .int .i64 mk, .int .i64 c', .int .i64 d', .int .i64 e', .int .i64 f'] 28)).heap.size = w.heap.size + 1 := by simp
  obtain ⟨V, hV⟩ : ∃ V, V = w.alloc (.cells #[.int .i64 a, .int .i64 b, .int .i64 mi, .int .i64 mk, .int .i64 c', .int .i64 d', .int .i64 e', .int .i64 f'] 28) := ⟨_, rfl⟩
  rw [← hV] at b0 g0 s0
  have hV1 := h.later b0
  have hTw := fun W (hB : Below V.heap.size V W) (hbig : bs.length ≤ 1048576) => twice_any (.slice p bs.length c) bs W (hV1.later hB) hbig
  clear h
  by_cases hz : bs.length = 0
  · have H : Hid (ChkIs mi mk bs 82) := .inl ⟨List.eq_nil_of_length_eq_zero hz, rfl⟩
    have n0 : ((bs.length : Int) == 0) = true := beq_iff_eq.2 (by omega)
    clear hTw hV1 g0
    go_enter Try.func37, Try.ntmps37
    go_wp2
    rw [← hV]
    go_ret
    exact ⟨_, rfl, H.out, b0⟩
  · have n0 : ((bs.length : Int) == 0) = false := beq_eq_false_iff_ne.2 (by omega)
    by_cases h32 : 32 < bs.length
    · have H : Hid (ChkIs mi mk bs 4) := .inr (.inl ⟨h32, rfl⟩)
      have n1 : (32 : Int) < (bs.length : Int) := by omega
      clear hTw hV1 g0 hz
      go_enter Try.func37, Try.ntmps37
      go_wp2
      rw [← hV]
      go_ret
      exact ⟨_, rfl, H.out, b0⟩
    · have n1 : decide ((32 : Int) < (bs.length : Int)) = false := by simp; omega
      have hne : Hid (bs ≠ []) := fun e => hz (by rw [e]; rfl)
      clear hz
      go_enter Try.func37, Try.ntmps37
      go_wp2
      rw [← hV]
      clear hV
      go_loopw [15] (fun i wr => ∃ k : Nat, k ≤ bs.length ∧ i = .int .i64 (k : Int) ∧ Hid (¬ longB mi mk (bs.take k)) ∧ Below V.heap.size V wr) (fun i _ => bs.length - (intOf i).toNat)
      case atStart => exact ⟨0, Nat.zero_le _, rfl, (by rintro ⟨x, hx, _⟩; simp at hx), Below.refl _ _⟩
      case round =>
        obtain ⟨k, hk, rfl, hH, hb⟩ := hrel
        have hsz := hb.size
        by_cases hlt : k < bs.length
        · obtain ⟨bl, o, rfl⟩ := hV1.addr (by omega)
          obtain ⟨x, q, kc, r, d, hx, c1, c2, h1, h2⟩ := hV1.get k hlt
          have hlt2 : (k : Int) < (bs.length : Int) := by omega
          have e1 := cell_later hb c1
          have e2 := cell_later hb c2
          have gW : wr.heap[w.heap.size]? = some (.cells #[.int .i64 a, .int .i64 b, .int .i64 mi, .int .i64 mk, .int .i64 c', .int .i64 d', .int .i64 e', .int .i64 f'] 28 (0, 0)) := (hb.block _ (by omega)).trans g0
          have bA := (Below.refl wr.heap.size wr).alloc (Nat.le_refl _) (.cells #[.slice q x.1.length kc, .slice r x.2.length d] 57)
          have gA : (wr.alloc (.cells #[.slice q x.1.length kc, .slice r x.2.length d] 57)).heap[w.heap.size]? = some (.cells #[.int .i64 a, .int .i64 b, .int .i64 mi, .int .i64 mk, .int .i64 c', .int .i64 d', .int .i64 e', .int .i64 f'] 28 (0, 0)) := (bA.block _ (by omega)).trans gW
          have p2 : (wr.alloc (.cells #[.slice q x.1.length kc, .slice r x.2.length d] 57)).cell? ⟨w.heap.size, 2, none⟩ = some (.int .i64 mi) := by rw [cell_of_row _ _ 2 _ _ _ gA]; rfl
          have p3 : (wr.alloc (.cells #[.slice q x.1.length kc, .slice r x.2.length d] 57)).cell? ⟨w.heap.size, 3, none⟩ = some (.int .i64 mk) := by rw [cell_of_row _ _ 3 _ _ _ gA]; rfl
          have hb1 := hb.alloc hsz (.cells #[.slice q x.1.length kc, .slice r x.2.length d] 57)
          have htk : bs.take (k + 1) = bs.take k ++ [x] := by rw [List.take_add_one, hx]; rfl
          have hmem : x ∈ bs := List.mem_of_getElem? hx
          by_cases l1 : mi < (x.1.length : Int)
          · have H : Hid (ChkIs mi mk bs 1) := .inr (.inr (.inl ⟨hne.out, by omega, ⟨x, hmem, .inl l1⟩, rfl⟩))
            have HB0 : Hid (Below w.heap.size w (wr.alloc (.cells #[.slice q x.1.length kc, .slice r x.2.length d] 57))) := b0.trans (hb1.mono (by omega))
            clear hH hx h1 h2 bA c1 c2 htk hmem gA gW g0 hTw hV1 hne hb hb1
            go_wp2
            go_ret
            exact ⟨_, rfl, H.out, HB0.out⟩
          · have d1 : decide (mi < (x.1.length : Int)) = false := by simpa using l1
            by_cases l2 : mk < (x.2.length : Int)
            · have H : Hid (ChkIs mi mk bs 1) := .inr (.inr (.inl ⟨hne.out, by omega, ⟨x, hmem, .inr l2⟩, rfl⟩))
              have HB0 : Hid (Below w.heap.size w (wr.alloc (.cells #[.slice q x.1.length kc, .slice r x.2.length d] 57))) := b0.trans (hb1.mono (by omega))
              clear hH hx h1 h2 bA c1 c2 htk hmem gA gW g0 hTw hV1 hne hb hb1
              go_wp2
              go_ret
              exact ⟨_, rfl, H.out, HB0.out⟩
            · have d2 : decide (mk < (x.2.length : Int)) = false := by simpa using l2
              have HL : Hid (¬ longB mi mk (bs.take (k + 1))) := by
                rintro ⟨y, hy, hl⟩
                rw [htk] at hy
                rcases List.mem_append.1 hy with hy | hy
                · exact hH.out ⟨y, hy, hl⟩
                · simp at hy
                  subst hy
                  omega
              clear hH hx h1 h2 bA c1 c2 htk hmem gA gW g0 hTw hV1 hne hb
              go_wp2
              go_roundw
              case rel => exact ⟨k + 1, by omega, by go_num, HL.out, hb1⟩
              case measure => simp [intOf]; omega
        · obtain rfl : k = bs.length := by omega
          have HL := hH.out
          rw [List.take_length] at HL
          have HL' : Hid (¬ longB mi mk bs) := HL
          have hTw' := hTw wr hb (by omega)
          clear hTw hH HL hV1 g0
          go_wp2_with fail
          refine hTw'.mono ?_
          rintro r w2 ⟨B, rfl, hB, hb2⟩
          clear hTw'
          have hb3 := (b0.trans (hb.mono (by omega))).trans (hb2.mono (by omega))
          cases B with
          | true =>
            have H : Hid (ChkIs mi mk bs 80) := .inr (.inr (.inr (.inl ⟨hne.out, by omega, HL'.out, hB.1 rfl, rfl⟩)))
            clear hB HL' hne
            go_wp2
            go_ret
            exact ⟨_, rfl, H.out, hb3⟩
          | false =>
            have H : Hid (ChkIs mi mk bs 0) := .inr (.inr (.inr (.inr ⟨hne.out, by omega, HL'.out, (fun h => absurd (hB.2 h) (by decide)), rfl⟩)))
            clear hB HL' hne
            go_wp2
            go_ret
            exact ⟨_, rfl, H.out, hb3⟩

end Go.Proofs.Ytbnfaeafkkagcaa
