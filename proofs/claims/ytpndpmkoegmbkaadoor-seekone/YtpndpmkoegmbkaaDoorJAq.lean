/- What this text proves: the walks of seek.among, seek.Probes and seek.Find over this program. What this text proves: the walk of annalslaw20.awake over this program: it answers true. -/
import Derived.Test.YtpndpmkoegmbkaaDoorJEt
import Derived.Test.YtpndpmkoegmbkaaDoorJIn
import Derived.Test.YtpndpmkoegmbkaaDoorJB2
namespace Go.Proofs.YtpndpmkoegmbkaaDoor
open Go.RowKit

theorem eg_amongF : ∀ args w, (callFunc 54 args).run Tryd.prog w = .ok (.enter 54 args) w := by intro args w; go_simp

set_option maxRecDepth 100000 in
set_option maxHeartbeats 1000000 in
theorem amongF_walk (S K : Nat) (caps : Array Value) (eg : ∀ args w, (callFunc K args).run Tryd.prog w = .ok (.enter K args) w) (v : Value) (T : List Int) (t : Int) (m : Nat) (hm : m < T.length) (w : World)
    (c0 : w.cell? ⟨S + 2, 0, none⟩ = some (.func (.func K) #[] caps)) (P : World → Prop) (hP : ∀ w', P w' → P w'.drew) (hC : ∀ w', P w' → w'.cell? ⟨S, 0, none⟩ = some v ∧ w'.cell? ⟨S + 1, 0, none⟩ = some (.int .i64 t) ∧ IZ w' v T)
    (hK : Calls Tryd.prog K (#[.int .i64 (m : Int)] ++ caps) w fun x w' => x = .returned (.tuple #[]) ∧ P w') :
    Calls Tryd.prog 54 (#[.int .i64 (m : Int)] ++ #[.pointer (some ⟨S + 2, 0, none⟩), .pointer (some ⟨S, 0, none⟩), .pointer (some ⟨S + 1, 0, none⟩)]) w fun x w' => x = .returned (.tuple #[.bool (decide (T.getD m 0 ≤ t)), .bool true]) ∧ P w' := by
  show Calls Tryd.prog 54 #[.int .i64 (m : Int), .pointer (some ⟨S + 2, 0, none⟩), .pointer (some ⟨S, 0, none⟩), .pointer (some ⟨S + 1, 0, none⟩)] w _
  obtain ⟨x, hx⟩ : ∃ x, T[m]? = some x := ⟨_, List.getElem?_eq_getElem hm⟩
  have eT : T.getD m 0 = x := by simp [List.getD, hx]
  rw [eT]
  clear eT
  have Hx : Hid (T[m]? = some x) := hx
  clear hx
  go_enter Tryd.func54, Tryd.ntmps54
  go_wp2_with fail
  refine hK.mono ?_
  rintro x' w1 ⟨rfl, hP1⟩
  obtain ⟨c1, c2, hi⟩ := hC w1 hP1
  have HP : Hid (P w1.drew) := hP w1 hP1
  obtain ⟨p, c, rfl⟩ := hi.shape
  obtain ⟨b, o, rfl, f1⟩ := hi.addr (by omega)
  have c3 := f1 m x Hx.out
  have hlt : (m : Int) < (T.length : Int) := by omega
  clear hK hC hP hi f1 c0 hP1 Hx
  go_wp2
  go_region
  all_goals
    go_wp2
    go_ret2
    exact ⟨rfl, HP.out⟩

/-- The world with the three boxes of among. -/
def amW (w : World) (v : Value) (t : Int) (f : Value) : World := ((w.alloc (.cells #[v] 42)).alloc (.cells #[.int .i64 t] 3)).alloc (.cells #[f] 67)

theorem amW_size (w : World) (v : Value) (t : Int) (f : Value) : (amW w v t f).heap.size = w.heap.size + 3 := by simp [amW]
theorem amW_below (w : World) (v : Value) (t : Int) (f : Value) : Below w.heap.size w (amW w v t f) := by
  have b1 := (Below.refl w.heap.size w).alloc (Nat.le_refl _) (.cells #[v] 42)
  have b2 := b1.alloc b1.size (.cells #[.int .i64 t] 3)
  exact b2.alloc b2.size (.cells #[f] 67)

theorem amW_cells (w : World) (v : Value) (t : Int) (f : Value) : (amW w v t f).heap[w.heap.size]? = some (.cells #[v] 42 (0, 0)) ∧ (amW w v t f).heap[w.heap.size + 1]? = some (.cells #[.int .i64 t] 3 (0, 0)) ∧ (amW w v t f).heap[w.heap.size + 2]? = some (.cells #[f] 67 (0, 0)) := by
  have n1 := heap_alloc_new w (.cells #[v] 42)
  have n2 := heap_alloc_new (w.alloc (.cells #[v] 42)) (.cells #[.int .i64 t] 3)
  have n3 := heap_alloc_new ((w.alloc (.cells #[v] 42)).alloc (.cells #[.int .i64 t] 3)) (.cells #[f] 67)
  have s1 : (w.alloc (.cells #[v] 42)).heap.size = w.heap.size + 1 := by simp
  have s2 : ((w.alloc (.cells #[v] 42)).alloc (.cells #[.int .i64 t] 3)).heap.size = w.heap.size + 2 := by simp
  rw [s1] at n2
  rw [s2] at n3
  refine ⟨?_, ?_, n3⟩
  · exact (((Below.refl _ _).alloc (Nat.le_refl _) _).block _ (by rw [s2]; omega)).trans ((((Below.refl _ _).alloc (Nat.le_refl _) _).block _ (by rw [s1]; omega)).trans n1)
  · exact (((Below.refl _ _).alloc (Nat.le_refl _) _).block _ (by rw [s2]; omega)).trans n2

theorem lookF_some {T : List Int} {t : Int} (h : T ≠ []) : lookF T t = srchA (fitT T t) (T.length - 1) := by unfold lookF; rw [if_neg h]

set_option maxRecDepth 100000 in
set_option maxHeartbeats 1000000 in
theorem among_any (K : Nat) (caps : Array Value) (eg : ∀ args w, (callFunc K args).run Tryd.prog w = .ok (.enter K args) w) (v : Value) (T : List Int) (t : Int) (w : World) (hi : IZ w v T) (hsm : T.length ≤ 1000000000) (J : List Nat → World → Prop)
    (hJ0 : J [] (amW w v t (.func (.func K) #[] caps))) (hJd : ∀ l w, J l w → J l w.drew)
    (hC : ∀ l w', J l w' → w'.heap[w.heap.size]? = some (.cells #[v] 42 (0, 0)) ∧ w'.heap[w.heap.size + 1]? = some (.cells #[.int .i64 t] 3 (0, 0)) ∧ w'.heap[w.heap.size + 2]? = some (.cells #[.func (.func K) #[] caps] 67 (0, 0)) ∧ IZ w' v T)
    (hK : ∀ l m w', m < T.length → l.length < T.length → J l w' → Calls Tryd.prog K (#[.int .i64 (m : Int)] ++ caps) w' fun x w'' => x = .returned (.tuple #[]) ∧ J (l ++ [m]) w'') :
    Calls Tryd.prog 47 #[v, .int .i64 t, .func (.func K) #[] caps] w fun x w' => x = .returned (.int .i64 (foundZ T t)) ∧ J (lookF T t).1 w' := by
  obtain ⟨p, c, rfl⟩ := hi.shape
  have hmx := hi.len_le
  unfold maxLen at hmx
  have e1 : (w.alloc (.cells #[.slice p T.length c] 42)).heap.size = w.heap.size + 1 := by simp
  have e2 : ((w.alloc (.cells #[.slice p T.length c] 42)).alloc (.cells #[.int .i64 t] 3)).heap.size = w.heap.size + 1 + 1 := by simp
  by_cases h0 : T = []
  · subst h0
    have HJ : Hid (J [] (amW w (.slice p 0 c) t (.func (.func K) #[] caps))) := hJ0
    clear hC hK hJd hJ0
    go_enter Tryd.func47, Tryd.ntmps47
    go_wp2
    go_ret
    exact ⟨rfl, HJ.out⟩
  · have hpos : 0 < T.length := List.length_pos_iff.2 h0
    have hS := search_any 54 #[.pointer (some ⟨w.heap.size + 2, 0, none⟩), .pointer (some ⟨w.heap.size, 0, none⟩), .pointer (some ⟨w.heap.size + 1, 0, none⟩)] eg_amongF (fitT T t) (T.length - 1) (by omega) J (amW w (.slice p T.length c) t (.func (.func K) #[] caps)) hJ0 (fun l m w' hm hll hJ => by
      obtain ⟨g0, g1, g2, _⟩ := hC l w' hJ
      exact amongF_walk w.heap.size K caps eg _ T t m (by omega) w' (by rw [cell_of_row w' _ _ _ _ _ g2]; rfl) (J (l ++ [m])) (hJd _) (fun w2 h2 => by
        obtain ⟨k0, k1, k2, k3⟩ := hC _ w2 h2
        exact ⟨by rw [cell_of_row w2 _ _ _ _ _ k0]; rfl, by rw [cell_of_row w2 _ _ _ _ _ k1]; rfl, k3⟩) (hK l m w' (by omega) (by omega) hJ))
    rw [show ((T.length - 1 : Nat) : Int) = (T.length : Int) - 1 by omega, ← lookF_some h0] at hS
    have HZ : Hid (((lookF T t).2 = none → foundZ T t = -1) ∧ ∀ n, (lookF T t).2 = some n → foundZ T t = (n : Int)) := ⟨fun h => by unfold foundZ; rw [h], fun n h => by unfold foundZ; rw [h]⟩
    generalize foundZ T t = z at *
    generalize lookF T t = R at *
    unfold amW at hS
    clear hC hK hJd hJ0 hi
    have hn0 : ¬ ((T.length : Int) = 0) := by omega
    have hnn : ¬ (T.length = 0) := by omega
    go_enter Tryd.func47, Tryd.ntmps47
    go_wp2_with fail
    refine hS.mono ?_
    rintro x w1 ⟨hJ1, ⟨hr, rfl⟩ | ⟨n, hr, rfl⟩⟩
    · obtain rfl := HZ.out.1 hr
      clear hS hr HZ
      go_wp2
      go_ret
      exact ⟨rfl, hJ1⟩
    · obtain rfl := HZ.out.2 n hr
      clear hS hr HZ
      go_wp2
      go_ret
      exact ⟨rfl, hJ1⟩

theorem eg_findF : ∀ args w, (callFunc 49 args).run Tryd.prog w = .ok (.enter 49 args) w := by intro args w; go_simp
theorem eg_probesF : ∀ args w, (callFunc 48 args).run Tryd.prog w = .ok (.enter 48 args) w := by intro args w; go_simp

theorem findF_walk (m : Int) (w : World) : Calls Tryd.prog 49 #[.int .i64 m] w fun x w' => x = .returned (.tuple #[]) ∧ w' = w := by
  go_enter Tryd.func49, Tryd.ntmps49
  go_wp2
  go_end0
  exact ⟨rfl, rfl⟩

set_option maxRecDepth 100000 in
set_option maxHeartbeats 1000000 in
theorem find_any (v : Value) (T : List Int) (t : Int) (w : World) (hi : IZ w v T) (hsm : T.length ≤ 1000000000) :
    Calls Tryd.prog 28 #[v, .int .i64 t] w fun x w' => x = .returned (.int .i64 (foundZ T t)) ∧ Below w.heap.size w w' := by
  obtain ⟨n0, n1, n2⟩ := amW_cells w v t (.func (.func 49) #[] #[])
  have hA := among_any 49 #[] eg_findF v T t w hi hsm (fun _ w' => Below (w.heap.size + 3) (amW w v t (.func (.func 49) #[] #[])) w') (Below.refl _ _) (fun _ _ h => h.drew)
    (fun l w' h => ⟨(h.block _ (by omega)).trans n0, (h.block _ (by omega)).trans n1, (h.block _ (by omega)).trans n2, (hi.later (amW_below _ _ _ _)).later (h.mono (by rw [amW_size]; omega))⟩)
    (fun l m w' _ _ h => (findF_walk m w').mono fun x w2 ⟨h1, h2⟩ => ⟨h1, by rw [h2]; exact h⟩)
  have hb := amW_below w v t (.func (.func 49) #[] #[])
  generalize foundZ T t = z at *
  generalize amW w v t (.func (.func 49) #[] #[]) = wa at *
  obtain ⟨p, c, rfl⟩ := hi.shape
  clear hi n0 n1 n2
  go_enter Tryd.func28, Tryd.ntmps28
  go_wp2_with fail
  refine hA.mono ?_
  rintro x w1 ⟨rfl, h1⟩
  clear hA
  go_wp2
  go_ret
  exact ⟨rfl, hb.trans (h1.mono (by omega))⟩

/-- The looks so far: the box of the epochs' slice, all else as it was. -/
def PJ (b : Nat) (W1 : World) (l : List Nat) (w : World) : Prop := Only b W1 w ∧ ∃ u, w.heap[b]? = some (.cells #[u] 42 (0, 0)) ∧ w.ownsRow (b + 4) 3 1 u l.length (ics l)

theorem i_intE : (Tryd.prog.info? 3).map (fun i => (i.zero, i.size, i.bytes)) = some (some (.int .i64 0), 1, 8) := by kernel_rfl

set_option maxRecDepth 100000 in
set_option maxHeartbeats 1000000 in
theorem probesF_walk (b : Nat) (W1 : World) (hs : W1.heap.size = b + 4) (l : List Nat) (hl : l.length < 1000000000) (m : Nat) (w : World) (h : PJ b W1 l w) :
    Calls Tryd.prog 48 (#[.int .i64 (m : Int)] ++ #[.pointer (some ⟨b, 0, none⟩)]) w fun x w' => x = .returned (.tuple #[]) ∧ PJ b W1 (l ++ [m]) w' := by
  show Calls Tryd.prog 48 #[.int .i64 (m : Int), .pointer (some ⟨b, 0, none⟩)] w _
  obtain ⟨hO, u, gb, hown⟩ := h
  obtain ⟨i0, hi, hz0, hz1, hz2⟩ := info_parts i_intE
  have hsz : b + 4 ≤ w.heap.size := by have := hO.size; omega
  have c0 : w.cell? ⟨b, 0, none⟩ = some u := by rw [cell_of_row w _ _ _ _ _ gb]; rfl
  go_enter Tryd.func48, Tryd.ntmps48
  go_wp2_with (first | (at_builtin; refine wpList_append_own _ rfl (.tmp 3) (.tmp 5) 42 rfl (b + 4) 3 i0 (.int .i64 0) 1 8 Tryd.underlying42 hi hz0 hz1 hz2 rfl (by decide) _ _ _ rfl (hown.alloc _) ⟨w.heap.size, 0, none⟩ 1 1 [.int .i64 (m : Int)] rfl rfl ?ra ?rb ?rc ?rd ?re ?_))
  case ra => exact cell_one_new _ _ _
  case rb => intro u hu; simp at hu; subst hu; rfl
  case rc => unfold maxLen; omega
  case rd => omega
  case re => simp; omega
  intro v3 w3 hown3 hgrow3 _
  obtain ⟨p3, c3', rfl⟩ := owns_shape hown3
  have hb3 : Below (b + 4) w w3 := ((Below.refl (b + 4) w).alloc hsz _).grown hgrow3 (by simp; omega) (fun k hk => (hown.lt k hk).1)
  have hO3 : Only b W1 w3 := ⟨hO.1.trans (hb3.mono (by omega)), fun k hk hks => (hb3.block k (by omega)).trans (hO.2 k hk hks)⟩
  have gb3 : w3.heap[b]? = some (.cells #[u] 42 (0, 0)) := (hb3.block b (by omega)).trans gb
  have c3 : w3.cell? ⟨b, 0, none⟩ = some u := by rw [cell_of_row w3 _ _ _ _ _ gb3]; rfl
  have z3 : w3.frozen? ⟨b, 0, none⟩ = false := by simp [World.frozen?, gb3]
  have hown4 : w3.ownsRow (b + 4) 3 1 (.slice p3 (l.length + 1) c3') (l ++ [m]).length (ics (l ++ [m])) := by
    have := hown3
    simp only [ics, List.map_append, List.map_cons, List.map_nil, ic, List.length_append, List.length_cons, List.length_nil, Nat.zero_add] at this ⊢
    exact this
  have H : Hid (PJ b W1 (l ++ [m]) (w3.setCell ⟨b, 0, none⟩ (.slice p3 (l.length + 1) c3'))) := by
    refine ⟨hO3.setCell 0 _, .slice p3 (l.length + 1) c3', ?_, ?_⟩
    · rw [heap_setCell_same w3 _ 0 _ _ _ gb3]
      rfl
    · exact ownsRow_setCell_below hown4 (by simp) _
  clear hown hown3 hown4 hgrow3 hO hO3 hb3 gb gb3
  go_wp2
  go_end0
  exact ⟨rfl, H.out⟩

set_option maxRecDepth 100000 in
set_option maxHeartbeats 1000000 in
theorem probes_any (v : Value) (T : List Int) (t : Int) (w : World) (hi : IZ w v T) (hsm : T.length ≤ 1000000000) :
    Calls Tryd.prog 27 #[v, .int .i64 t] w fun x w' => ∃ u, x = .returned u ∧ IA w' u (lookF T t).1 ∧ Below w.heap.size w w' := by
  have bA := (Below.refl w.heap.size w).alloc (Nat.le_refl _) (.cells #[.slice none 0 0] 42)
  have nA := heap_alloc_new w (.cells #[.slice none 0 0] 42)
  have sA : (w.alloc (.cells #[.slice none 0 0] 42)).heap.size = w.heap.size + 1 := by simp
  obtain ⟨wA, hwA⟩ : ∃ wA, w.alloc (.cells #[.slice none 0 0] 42) = wA := ⟨_, rfl⟩
  rw [hwA] at bA nA sA
  obtain ⟨f, hf⟩ : ∃ f : Value, f = .func (.func 48) #[] #[.pointer (some ⟨w.heap.size, 0, none⟩)] := ⟨_, rfl⟩
  have hiA := hi.later bA
  obtain ⟨n0, n1, n2⟩ := amW_cells wA v t f
  have hbW := amW_below wA v t f
  have hsW := amW_size wA v t f
  rw [sA] at n0 n1 n2 hbW hsW
  have nb : (amW wA v t f).heap[w.heap.size]? = some (.cells #[.slice none 0 0] 42 (0, 0)) := (hbW.block _ (by omega)).trans nA
  have hA := among_any 48 #[.pointer (some ⟨w.heap.size, 0, none⟩)] eg_probesF v T t wA hiA hsm (PJ w.heap.size (amW wA v t f))
    (by rw [← hf]; exact ⟨Only.refl _ _, _, nb, World.ownsRow_nil _ _ _ _⟩)
    (fun l w' h => ⟨by have := h.1.drewN 1; exact this, h.2⟩)
    (fun l w' h => by
      have hO := h.1
      rw [sA, ← hf]
      refine ⟨(hO.block _ (by omega) (by omega)).trans n0, (hO.block _ (by omega) (by omega)).trans n1, (hO.block _ (by omega) (by omega)).trans n2, ?_⟩
      refine hi.keep fun b hb => ?_
      rw [hO.block b (by omega) (by omega), hbW.block b (by omega), bA.block b hb])
    (fun l m w' _ hll h => probesF_walk w.heap.size (amW wA v t f) (by omega) l (by omega) m w' h)
  rw [← hf] at hA
  generalize amW wA v t f = wB at *
  have bB := bA.trans (hbW.mono (by omega))
  obtain ⟨p, c, rfl⟩ := hi.shape
  generalize foundZ T t = z at *
  generalize (lookF T t).1 = R at *
  subst hf
  clear hi hiA n0 n1 n2 nA nb hbW hsW bA sA
  go_enter Tryd.func27, Tryd.ntmps27
  go_wp2_with fail
  refine hA.mono ?_
  rintro x w1 ⟨rfl, hO, u, gb, hown⟩
  have cu : w1.cell? ⟨w.heap.size, 0, none⟩ = some u := by rw [cell_of_row w1 _ _ _ _ _ gb]; rfl
  have hI := IA.of_owns hown
  have hB := bB.trans hO.1
  obtain ⟨p2, c2, rfl⟩ := hI.shape
  clear hA hown gb hO bB hwA
  go_wp2
  go_ret
  exact ⟨_, rfl, hI, hB⟩

end Go.Proofs.YtpndpmkoegmbkaaDoor

namespace Go.Proofs.YtpndpmkoegmbkaaDoor
open Go.RowKit

theorem look54 : (lookF [0, 5, 5, 9, 9] 4).1 = [0, 2, 1] := by decide +kernel
theorem found55 : foundZ [0, 5, 5, 9, 9] 5 = 2 := by decide +kernel

set_option maxRecDepth 100000 in
set_option maxHeartbeats 1000000 in
theorem ekAwake_any (w : World) :
    Calls Tryd.prog 13 #[] w fun x w' => x = .returned (.bool true) ∧ Below w.heap.size w w' := by
  have bA := (Below.refl w.heap.size w).alloc (Nat.le_refl _) (.cells #[.int .i64 0, .int .i64 5, .int .i64 5, .int .i64 9, .int .i64 9] 3)
  obtain ⟨Z, hZ⟩ : ∃ Z : List Int, Z = [0, 5, 5, 9, 9] := ⟨_, rfl⟩
  have hlit : ∀ w : World, IZ (w.alloc (.cells #[.int .i64 0, .int .i64 5, .int .i64 5, .int .i64 9, .int .i64 9] 3)) (.slice (some ⟨w.heap.size, 0, none⟩) 5 5) Z := fun w => IZ.litF w 3 Z _ 5 (0, 0) (by rw [hZ]; rfl) (by rw [hZ]; rfl) (by decide)
  have hZl : Z.length ≤ 1000000000 := by rw [hZ]; decide
  have hP := probes_any _ Z 4 _ (hlit w) hZl
  have hF := fun w => find_any _ Z 5 _ (hlit w) hZl
  rw [hZ, look54] at hP
  rw [hZ, found55] at hF
  obtain ⟨L, hL⟩ : ∃ L : List Nat, L = [0, 2, 1] := ⟨_, rfl⟩
  rw [← hL] at hP
  have HL : Hid (L = [0, 2, 1]) := hL
  clear hL hlit hZl hZ
  go_enter Tryd.func13, Tryd.ntmps13
  go_wp2_with fail
  refine hP.mono ?_
  rintro x w1 ⟨v1, rfl, hI1, hb1⟩
  clear hP
  obtain ⟨p1, c1, rfl⟩ := hI1.shape
  have hA := (Below.refl w1.heap.size w1).alloc (Nat.le_refl _) (.cells #[.int .i64 0, .int .i64 2, .int .i64 1] 3)
  have hI := hI1.later hA
  have hJ : IA (w1.alloc (.cells #[.int .i64 0, .int .i64 2, .int .i64 1] 3)) (.slice (some ⟨w1.heap.size, 0, none⟩) 3 3) L := IA.litF w1 3 L _ 3 (0, 0) (by rw [HL.out]; rfl) (by rw [HL.out]; rfl) (by decide)
  have hE := slequal_same _ _ L _ hI hJ
  have hbA : Below w.heap.size w (w1.alloc (.cells #[.int .i64 0, .int .i64 2, .int .i64 1] 3)) := (bA.trans (hb1.mono bA.size)).trans (hA.mono (Nat.le_trans bA.size hb1.size))
  clear hI hJ hA hb1 bA hI1
  go_wp2_with fail
  refine hE.mono ?_
  rintro x w2 ⟨rfl, hb2⟩
  have hbB := hbA.trans (hb2.mono hbA.size)
  have bC := (Below.refl w2.heap.size w2).alloc (Nat.le_refl _) (.cells #[.int .i64 0, .int .i64 5, .int .i64 5, .int .i64 9, .int .i64 9] 3)
  have hF2 := hF w2
  clear hE hbA hb2 hF
  go_wp2_with fail
  refine hF2.mono ?_
  rintro x w3 ⟨rfl, hb3⟩
  have hbC := (hbB.trans (bC.mono hbB.size)).trans (hb3.mono (Nat.le_trans hbB.size bC.size))
  clear hF2
  go_wp2
  go_ret
  exact ⟨rfl, hbC⟩

end Go.Proofs.YtpndpmkoegmbkaaDoor
