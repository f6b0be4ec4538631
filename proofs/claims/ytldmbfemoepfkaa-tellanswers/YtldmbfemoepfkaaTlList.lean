/- What this text proves: the walks of fields.List, of items and of events, over this program, whoever shows the fields. (By program: mktllist.py.) -/
import Derived.Test.YtldmbfemoepfkaaTlThru
import Derived.Laws.MakeOwn
namespace Go.Proofs.Ytldmbfemoepfkaa
open Go.RowKit

theorem i_item : (Try.prog.info? 58).map (fun i => (i.zero, i.size, i.bytes)) = some (some (.agg #[.slice none 0 0, .slice none 0 0, .int .i64 0]), 3, 56) := by kernel_rfl
theorem i_event : (Try.prog.info? 61).map (fun i => (i.zero, i.size, i.bytes)) = some (some (.agg #[.int .i64 0, .int .i64 0, .slice none 0 0, .slice none 0 0]), 4, 64) := by kernel_rfl

theorem frozen_alloc {w : World} {o : Obj} {g i : Nat} (h : g < w.heap.size) : (w.alloc o).frozen? ⟨g, i, none⟩ = w.frozen? ⟨g, i, none⟩ := by
  have := ((Below.refl w.heap.size w).alloc (Nat.le_refl _) o).block g h
  simp [World.frozen?, this]

/-- What is shown of a list, element by element. -/
def LpI (S : Shows) (gb gl il b o : Nat) (sv : Value) (K : World → Prop) (E : List PanicEntry → World → Prop) : Nat → Nat → World → Prop
  | 0, _, w => K w
  | n + 1, k, w => w.cell? ⟨gl, il, none⟩ = some sv ∧ ItT S gb b (o + k * 3) w (fun w1 => LpI S gb gl il b o sv K E n (k + 1) w1) E

set_option maxHeartbeats 1000000 in
theorem listI_same (S : Shows) (gb gl il b o n c : Nat) (p : Option Addr) (w : World) (K : World → Prop) (E : List PanicEntry → World → Prop) (hp : 0 < n → p = some ⟨b, o, none⟩) (hc : w.cell? ⟨gl, il, none⟩ = some (.slice p n c)) (hn : n ≤ 1000000)
    (h : ShN S w.heap.size 0 32 (w.alloc (.cells #[.int .i64 (n : Int)] 3)) (fun w1 => w1.cell? ⟨w.heap.size, 0, none⟩ = some (.int .i64 (n : Int)) ∧ w1.cell? ⟨gl, il, none⟩ = some (.slice p n c) ∧ (n = 0 → K w1.drew) ∧ (0 < n → LpI S gb gl il b o (.slice p n c) K E n 0 w1.drew)) E) :
    Then Try.prog 31 #[.iface S.T S.v, .pointer (some ⟨gl, il, none⟩), .int .i64 32, .func (.func 32) #[] #[.pointer (some ⟨gb, 0, none⟩)]] w (fun _ => K) E := by
  have nN := S.mN.nil _ ntypes
  have aN := S.mN.at _ ntypes
  have fN : ∀ x y w, (callFunc S.fN #[S.uN, x, y]).run Try.prog w = .ok (.enter S.fN #[S.uN, x, y]) w := fun x y w => S.mN.2.2 _ w
  unfold ShN Then at h
  unfold Then
  go_enter Try.func31, Try.ntmps31
  go_wp2
  refine h.mono ?_
  clear h
  rintro e w1 (⟨r, rfl, c1, c2, hz, hl⟩ | ⟨ch, rfl, k⟩)
  rotate_left
  · go_wp2
    exact ⟨rfl, .inr ⟨_, rfl, k⟩⟩
  go_wp2
  go_region
  all_goals
    go_wp2
    go_loopw [9, 31] (fun _ i wr => ∃ k : Nat, k ≤ n ∧ i = .int .i64 (k : Int) ∧ (k = n → K wr) ∧ (k < n → LpI S gb gl il b o (.slice p n c) K E (n - k) k wr)) (fun _ i _ => n - (intOf i).toNat)
    case atStart => exact ⟨0, Nat.zero_le _, rfl, fun h => hz h.symm, hl⟩
    case round =>
      obtain ⟨k, hk, rfl, hz, hl⟩ := hrel
      by_cases hlt : k < n
      · have hl := hl hlt
        rw [show n - k = (n - k - 1) + 1 by omega] at hl
        obtain ⟨cl, ht⟩ : wr.cell? ⟨gl, il, none⟩ = some (.slice p n c) ∧ ItT S gb b (o + k * 3) wr (fun w1 => LpI S gb gl il b o (.slice p n c) K E (n - k - 1) (k + 1) w1) E := hl
        have hI := item_any S gb b (o + k * 3) wr _ E ht
        obtain rfl := hp (by omega)
        have hlt2 : (k : Int) < (n : Int) := by omega
        clear hl ht hz
        unfold Then at hI
        go_wp2_with fail
        refine hI.mono ?_
        clear hI
        rintro e w2 (⟨r, rfl, h2⟩ | ⟨ch, rfl, k2⟩)
        rotate_left
        · go_wp2
          exact ⟨rfl, .inr ⟨_, rfl, k2⟩⟩
        have hK2 : k + 1 = n → K w2 := fun e => by rw [show n - k - 1 = 0 by omega] at h2; exact h2
        have hL2 : k + 1 < n → LpI S gb gl il b o (.slice (some ⟨b, o, none⟩) n c) K E (n - (k + 1)) (k + 1) w2 := fun e => by rw [show n - (k + 1) = n - k - 1 by omega]; exact h2
        clear h2
        go_wp2
        go_roundw
        case rel => first | exact ⟨k + 1, by omega, by go_num, hK2, hL2⟩ | ((repeat apply Exists.intro); exact ⟨⟨k + 1, by omega, by go_num, hK2, hL2⟩, rfl⟩)
        case measure => simp [intOf]; omega
      · obtain rfl : k = n := by omega
        have hK := hz rfl
        clear hz hl
        go_wp2
        go_end0
        exact .inl ⟨_, rfl, hK⟩

set_option maxHeartbeats 1000000 in
theorem listI_make (S : Shows) (gb gl il : Nat) (w : World) (K : World → Prop) (E : List PanicEntry → World → Prop) (hc : w.cell? ⟨gl, il, none⟩ = some (.slice none 0 0))
    (h : ShN S w.heap.size 0 32 (w.alloc (.cells #[.int .i64 0] 3)) (fun w1 => ∃ n : Nat, n ≤ 1000000 ∧ w1.cell? ⟨w.heap.size, 0, none⟩ = some (.int .i64 (n : Int)) ∧ w1.cell? ⟨gl, il, none⟩ = some (.slice none 0 0) ∧ w1.frozen? ⟨gl, il, none⟩ = false ∧ gl < w1.heap.size ∧ (n = 0 → K w1.drew) ∧ (0 < n → LpI S gb gl il w1.heap.size 0 (.slice (some ⟨w1.heap.size, 0, none⟩) n n) K E n 0 ((w1.setCell ⟨gl, il, none⟩ (.slice (some ⟨w1.heap.size, 0, none⟩) n n)).alloc (.cells (madeCells #[.slice none 0 0, .slice none 0 0, .int .i64 0] (n * 3)) 58)).drew)) E) :
    Then Try.prog 31 #[.iface S.T S.v, .pointer (some ⟨gl, il, none⟩), .int .i64 32, .func (.func 32) #[] #[.pointer (some ⟨gb, 0, none⟩)]] w (fun _ => K) E := by
  have nN := S.mN.nil _ ntypes
  have aN := S.mN.at _ ntypes
  have fN : ∀ x y w, (callFunc S.fN #[S.uN, x, y]).run Try.prog w = .ok (.enter S.fN #[S.uN, x, y]) w := fun x y w => S.mN.2.2 _ w
  unfold ShN Then at h
  unfold Then
  go_enter Try.func31, Try.ntmps31
  go_wp2
  refine h.mono ?_
  clear h
  rintro e w1 (⟨r, rfl, n, hn, c1, c2, hfz, hgl, hz, hl⟩ | ⟨ch, rfl, k⟩)
  rotate_left
  · go_wp2
    exact ⟨rfl, .inr ⟨_, rfl, k⟩⟩
  obtain ⟨i, hi, hz0, hz1, hz2⟩ := info_parts i_item
  have hmk : ∀ W : World, (Instr.makeSlice 24 (.int .i64 (n : Int)) (.int .i64 (n : Int))).run Try.prog W = .ok (.slice (some ⟨W.heap.size, 0, none⟩) n n) (W.alloc (.cells (madeCells #[.slice none 0 0, .slice none 0 0, .int .i64 0] (n * 3)) 58)) := by
    intro W
    have := run_make (P := Try.prog) W 24 58 i _ Try.underlying24 hi hz0 .i64 .i64 (n : Int) (n : Int) (by omega) (Int.le_refl _) (by rw [hz2]; omega) (by omega)
    rw [hz1] at this
    exact this
  have hcm : (w1.alloc (.cells (madeCells #[.slice none 0 0, .slice none 0 0, .int .i64 0] (n * 3)) 58)).cell? ⟨gl, il, none⟩ = some (.slice none 0 0) := cell_later ((Below.refl w1.heap.size w1).alloc (Nat.le_refl _) _) c2
  have hfm : (w1.alloc (.cells (madeCells #[.slice none 0 0, .slice none 0 0, .int .i64 0] (n * 3)) 58)).frozen? ⟨gl, il, none⟩ = false := by rw [← hfz]; exact frozen_alloc hgl
  by_cases hn0 : n = 0
  · subst hn0
    have hK := hz rfl
    clear hz hl hmk hcm hfm
    go_wp2
    go_region
    all_goals
      go_wp2
      go_loopw [9, 31] (fun _ i wr => i = .int .i64 0 ∧ K wr) (fun _ i _ => 0)
      case atStart => exact ⟨rfl, hK⟩
      case round =>
        obtain ⟨rfl, hK⟩ := hrel
        go_wp2
        go_end0
        exact .inl ⟨_, rfl, hK⟩
  have hl := hl (by omega)
  have hnn : ((n : Int) != 0) = true := by simpa using hn0
  have hp : 0 < n → some (⟨w1.heap.size, 0, none⟩ : Addr) = some ⟨w1.heap.size, 0, none⟩ := fun _ => rfl
  clear hz
  go_wp2
  go_region
  all_goals
    go_wp2
    go_loopw [9, 31] (fun _ i wr => ∃ k : Nat, k ≤ n ∧ i = .int .i64 (k : Int) ∧ (k = n → K wr) ∧ (k < n → LpI S gb gl il w1.heap.size 0 (.slice (some ⟨w1.heap.size, 0, none⟩) n n) K E (n - k) k wr)) (fun _ i _ => n - (intOf i).toNat)
    case atStart => exact ⟨0, Nat.zero_le _, rfl, fun h => absurd h.symm hn0, fun _ => hl⟩
    case round =>
      clear hmk hcm hfm hi hz0 hz1 hz2 hl c1 c2 hfz
      obtain ⟨k, hk, rfl, hz, hl⟩ := hrel
      by_cases hlt : k < n
      · have hl := hl hlt
        rw [show n - k = (n - k - 1) + 1 by omega] at hl
        obtain ⟨cl, ht⟩ : wr.cell? ⟨gl, il, none⟩ = some (.slice (some ⟨w1.heap.size, 0, none⟩) n n) ∧ ItT S gb w1.heap.size (0 + k * 3) wr (fun wx => LpI S gb gl il w1.heap.size 0 (.slice (some ⟨w1.heap.size, 0, none⟩) n n) K E (n - k - 1) (k + 1) wx) E := hl
        rw [Nat.zero_add] at ht
        have hI := item_any S gb w1.heap.size (k * 3) wr _ E ht
        have hlt2 : (k : Int) < (n : Int) := by omega
        clear hl ht hz
        unfold Then at hI
        go_wp2_with fail
        refine hI.mono ?_
        clear hI
        rintro e w2 (⟨r, rfl, h2⟩ | ⟨ch, rfl, k2⟩)
        rotate_left
        · go_wp2
          exact ⟨rfl, .inr ⟨_, rfl, k2⟩⟩
        have hK2 : k + 1 = n → K w2 := fun e => by rw [show n - k - 1 = 0 by omega] at h2; exact h2
        have hL2 : k + 1 < n → LpI S gb gl il w1.heap.size 0 (.slice (some ⟨w1.heap.size, 0, none⟩) n n) K E (n - (k + 1)) (k + 1) w2 := fun e => by rw [show n - (k + 1) = n - k - 1 by omega]; exact h2
        clear h2
        go_wp2
        go_roundw
        case rel => first | exact ⟨k + 1, by omega, by go_num, hK2, hL2⟩ | ((repeat apply Exists.intro); exact ⟨⟨k + 1, by omega, by go_num, hK2, hL2⟩, rfl⟩)
        case measure => simp [intOf]; omega
      · obtain rfl : k = n := by omega
        have hK := hz rfl
        clear hz hl
        go_wp2
        go_end0
        exact .inl ⟨_, rfl, hK⟩

/-- What is shown of a list, element by element. -/
def LpE (S : Shows) (gb gl il b o : Nat) (sv : Value) (K : World → Prop) (E : List PanicEntry → World → Prop) : Nat → Nat → World → Prop
  | 0, _, w => K w
  | n + 1, k, w => w.cell? ⟨gl, il, none⟩ = some sv ∧ EvT S gb b (o + k * 4) w (fun w1 => LpE S gb gl il b o sv K E n (k + 1) w1) E

set_option maxHeartbeats 1000000 in
theorem listE_same (S : Shows) (gb gl il b o n c : Nat) (p : Option Addr) (w : World) (K : World → Prop) (E : List PanicEntry → World → Prop) (hp : 0 < n → p = some ⟨b, o, none⟩) (hc : w.cell? ⟨gl, il, none⟩ = some (.slice p n c)) (hn : n ≤ 1000000)
    (h : ShN S w.heap.size 0 32 (w.alloc (.cells #[.int .i64 (n : Int)] 3)) (fun w1 => w1.cell? ⟨w.heap.size, 0, none⟩ = some (.int .i64 (n : Int)) ∧ w1.cell? ⟨gl, il, none⟩ = some (.slice p n c) ∧ (n = 0 → K w1.drew) ∧ (0 < n → LpE S gb gl il b o (.slice p n c) K E n 0 w1.drew)) E) :
    Then Try.prog 33 #[.iface S.T S.v, .pointer (some ⟨gl, il, none⟩), .int .i64 32, .func (.func 34) #[] #[.pointer (some ⟨gb, 0, none⟩)]] w (fun _ => K) E := by
  have nN := S.mN.nil _ ntypes
  have aN := S.mN.at _ ntypes
  have fN : ∀ x y w, (callFunc S.fN #[S.uN, x, y]).run Try.prog w = .ok (.enter S.fN #[S.uN, x, y]) w := fun x y w => S.mN.2.2 _ w
  unfold ShN Then at h
  unfold Then
  go_enter Try.func33, Try.ntmps33
  go_wp2
  refine h.mono ?_
  clear h
  rintro e w1 (⟨r, rfl, c1, c2, hz, hl⟩ | ⟨ch, rfl, k⟩)
  rotate_left
  · go_wp2
    exact ⟨rfl, .inr ⟨_, rfl, k⟩⟩
  go_wp2
  go_region
  all_goals
    go_wp2
    go_loopw [9, 31] (fun _ i wr => ∃ k : Nat, k ≤ n ∧ i = .int .i64 (k : Int) ∧ (k = n → K wr) ∧ (k < n → LpE S gb gl il b o (.slice p n c) K E (n - k) k wr)) (fun _ i _ => n - (intOf i).toNat)
    case atStart => exact ⟨0, Nat.zero_le _, rfl, fun h => hz h.symm, hl⟩
    case round =>
      obtain ⟨k, hk, rfl, hz, hl⟩ := hrel
      by_cases hlt : k < n
      · have hl := hl hlt
        rw [show n - k = (n - k - 1) + 1 by omega] at hl
        obtain ⟨cl, ht⟩ : wr.cell? ⟨gl, il, none⟩ = some (.slice p n c) ∧ EvT S gb b (o + k * 4) wr (fun w1 => LpE S gb gl il b o (.slice p n c) K E (n - k - 1) (k + 1) w1) E := hl
        have hI := event_any S gb b (o + k * 4) wr _ E ht
        obtain rfl := hp (by omega)
        have hlt2 : (k : Int) < (n : Int) := by omega
        clear hl ht hz
        unfold Then at hI
        go_wp2_with fail
        refine hI.mono ?_
        clear hI
        rintro e w2 (⟨r, rfl, h2⟩ | ⟨ch, rfl, k2⟩)
        rotate_left
        · go_wp2
          exact ⟨rfl, .inr ⟨_, rfl, k2⟩⟩
        have hK2 : k + 1 = n → K w2 := fun e => by rw [show n - k - 1 = 0 by omega] at h2; exact h2
        have hL2 : k + 1 < n → LpE S gb gl il b o (.slice (some ⟨b, o, none⟩) n c) K E (n - (k + 1)) (k + 1) w2 := fun e => by rw [show n - (k + 1) = n - k - 1 by omega]; exact h2
        clear h2
        go_wp2
        go_roundw
        case rel => first | exact ⟨k + 1, by omega, by go_num, hK2, hL2⟩ | ((repeat apply Exists.intro); exact ⟨⟨k + 1, by omega, by go_num, hK2, hL2⟩, rfl⟩)
        case measure => simp [intOf]; omega
      · obtain rfl : k = n := by omega
        have hK := hz rfl
        clear hz hl
        go_wp2
        go_end0
        exact .inl ⟨_, rfl, hK⟩

set_option maxHeartbeats 1000000 in
theorem listE_make (S : Shows) (gb gl il : Nat) (w : World) (K : World → Prop) (E : List PanicEntry → World → Prop) (hc : w.cell? ⟨gl, il, none⟩ = some (.slice none 0 0))
    (h : ShN S w.heap.size 0 32 (w.alloc (.cells #[.int .i64 0] 3)) (fun w1 => ∃ n : Nat, n ≤ 1000000 ∧ w1.cell? ⟨w.heap.size, 0, none⟩ = some (.int .i64 (n : Int)) ∧ w1.cell? ⟨gl, il, none⟩ = some (.slice none 0 0) ∧ w1.frozen? ⟨gl, il, none⟩ = false ∧ gl < w1.heap.size ∧ (n = 0 → K w1.drew) ∧ (0 < n → LpE S gb gl il w1.heap.size 0 (.slice (some ⟨w1.heap.size, 0, none⟩) n n) K E n 0 ((w1.setCell ⟨gl, il, none⟩ (.slice (some ⟨w1.heap.size, 0, none⟩) n n)).alloc (.cells (madeCells #[.int .i64 0, .int .i64 0, .slice none 0 0, .slice none 0 0] (n * 4)) 61)).drew)) E) :
    Then Try.prog 33 #[.iface S.T S.v, .pointer (some ⟨gl, il, none⟩), .int .i64 32, .func (.func 34) #[] #[.pointer (some ⟨gb, 0, none⟩)]] w (fun _ => K) E := by
  have nN := S.mN.nil _ ntypes
  have aN := S.mN.at _ ntypes
  have fN : ∀ x y w, (callFunc S.fN #[S.uN, x, y]).run Try.prog w = .ok (.enter S.fN #[S.uN, x, y]) w := fun x y w => S.mN.2.2 _ w
  unfold ShN Then at h
  unfold Then
  go_enter Try.func33, Try.ntmps33
  go_wp2
  refine h.mono ?_
  clear h
  rintro e w1 (⟨r, rfl, n, hn, c1, c2, hfz, hgl, hz, hl⟩ | ⟨ch, rfl, k⟩)
  rotate_left
  · go_wp2
    exact ⟨rfl, .inr ⟨_, rfl, k⟩⟩
  obtain ⟨i, hi, hz0, hz1, hz2⟩ := info_parts i_event
  have hmk : ∀ W : World, (Instr.makeSlice 25 (.int .i64 (n : Int)) (.int .i64 (n : Int))).run Try.prog W = .ok (.slice (some ⟨W.heap.size, 0, none⟩) n n) (W.alloc (.cells (madeCells #[.int .i64 0, .int .i64 0, .slice none 0 0, .slice none 0 0] (n * 4)) 61)) := by
    intro W
    have := run_make (P := Try.prog) W 25 61 i _ Try.underlying25 hi hz0 .i64 .i64 (n : Int) (n : Int) (by omega) (Int.le_refl _) (by rw [hz2]; omega) (by omega)
    rw [hz1] at this
    exact this
  have hcm : (w1.alloc (.cells (madeCells #[.int .i64 0, .int .i64 0, .slice none 0 0, .slice none 0 0] (n * 4)) 61)).cell? ⟨gl, il, none⟩ = some (.slice none 0 0) := cell_later ((Below.refl w1.heap.size w1).alloc (Nat.le_refl _) _) c2
  have hfm : (w1.alloc (.cells (madeCells #[.int .i64 0, .int .i64 0, .slice none 0 0, .slice none 0 0] (n * 4)) 61)).frozen? ⟨gl, il, none⟩ = false := by rw [← hfz]; exact frozen_alloc hgl
  by_cases hn0 : n = 0
  · subst hn0
    have hK := hz rfl
    clear hz hl hmk hcm hfm
    go_wp2
    go_region
    all_goals
      go_wp2
      go_loopw [9, 31] (fun _ i wr => i = .int .i64 0 ∧ K wr) (fun _ i _ => 0)
      case atStart => exact ⟨rfl, hK⟩
      case round =>
        obtain ⟨rfl, hK⟩ := hrel
        go_wp2
        go_end0
        exact .inl ⟨_, rfl, hK⟩
  have hl := hl (by omega)
  have hnn : ((n : Int) != 0) = true := by simpa using hn0
  have hp : 0 < n → some (⟨w1.heap.size, 0, none⟩ : Addr) = some ⟨w1.heap.size, 0, none⟩ := fun _ => rfl
  clear hz
  go_wp2
  go_region
  all_goals
    go_wp2
    go_loopw [9, 31] (fun _ i wr => ∃ k : Nat, k ≤ n ∧ i = .int .i64 (k : Int) ∧ (k = n → K wr) ∧ (k < n → LpE S gb gl il w1.heap.size 0 (.slice (some ⟨w1.heap.size, 0, none⟩) n n) K E (n - k) k wr)) (fun _ i _ => n - (intOf i).toNat)
    case atStart => exact ⟨0, Nat.zero_le _, rfl, fun h => absurd h.symm hn0, fun _ => hl⟩
    case round =>
      clear hmk hcm hfm hi hz0 hz1 hz2 hl c1 c2 hfz
      obtain ⟨k, hk, rfl, hz, hl⟩ := hrel
      by_cases hlt : k < n
      · have hl := hl hlt
        rw [show n - k = (n - k - 1) + 1 by omega] at hl
        obtain ⟨cl, ht⟩ : wr.cell? ⟨gl, il, none⟩ = some (.slice (some ⟨w1.heap.size, 0, none⟩) n n) ∧ EvT S gb w1.heap.size (0 + k * 4) wr (fun wx => LpE S gb gl il w1.heap.size 0 (.slice (some ⟨w1.heap.size, 0, none⟩) n n) K E (n - k - 1) (k + 1) wx) E := hl
        rw [Nat.zero_add] at ht
        have hI := event_any S gb w1.heap.size (k * 4) wr _ E ht
        have hlt2 : (k : Int) < (n : Int) := by omega
        clear hl ht hz
        unfold Then at hI
        go_wp2_with fail
        refine hI.mono ?_
        clear hI
        rintro e w2 (⟨r, rfl, h2⟩ | ⟨ch, rfl, k2⟩)
        rotate_left
        · go_wp2
          exact ⟨rfl, .inr ⟨_, rfl, k2⟩⟩
        have hK2 : k + 1 = n → K w2 := fun e => by rw [show n - k - 1 = 0 by omega] at h2; exact h2
        have hL2 : k + 1 < n → LpE S gb gl il w1.heap.size 0 (.slice (some ⟨w1.heap.size, 0, none⟩) n n) K E (n - (k + 1)) (k + 1) w2 := fun e => by rw [show n - (k + 1) = n - k - 1 by omega]; exact h2
        clear h2
        go_wp2
        go_roundw
        case rel => first | exact ⟨k + 1, by omega, by go_num, hK2, hL2⟩ | ((repeat apply Exists.intro); exact ⟨⟨k + 1, by omega, by go_num, hK2, hL2⟩, rfl⟩)
        case measure => simp [intOf]; omega
      · obtain rfl : k = n := by omega
        have hK := hz rfl
        clear hz hl
        go_wp2
        go_end0
        exact .inl ⟨_, rfl, hK⟩

end Go.Proofs.Ytldmbfemoepfkaa
