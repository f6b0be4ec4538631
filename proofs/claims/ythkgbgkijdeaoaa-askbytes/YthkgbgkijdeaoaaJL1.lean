/- What this text proves: the walk of annalslaw25.AskBytes over this program: it answers true of any request and any bytes. (By program: mkakbl.py.) What this text proves: the statement AskBytes: any request as bytes and any bytes as a request come out as the document's, or the errors, and the bytes that were handed in stay, whatever the request and the bytes; no condition beyond those of the row. -/
import Derived.Test.YthkgbgkijdeaoaaJD1
import Derived.Test.YthkgbgkijdeaoaaJAkRencAll
import Derived.Test.YthkgbgkijdeaoaaJP1
import Derived.Test.YthkgbgkijdeaoaaJS1
import Derived.Test.YthkgbgkijdeaoaaOpenB
import Derived.Test.YthkgbgkijdeaoaaJO1
namespace Go.Proofs.Ythkgbgkijdeaoaa
open Go.RowKit

/-- What a request is written as, and the error. -/
def encL (k fr to ti ep ix li : Int) (so : Bool) (id : List UInt8) (bs : List (List UInt8 × List UInt8)) : List UInt8 := if (k ≤ 10 ∧ 1 ≤ k) ∧ okE k fr to ti ep ix li so id bs = true then numL (clampN k) ++ wrE k fr to ti ep ix li so id bs else []
def encR (k fr to ti ep ix li : Int) (so : Bool) (id : List UInt8) (bs : List (List UInt8 × List UInt8)) : Int := if k ≤ 10 ∧ 1 ≤ k then (if okE k fr to ti ep ix li so id bs = true then 0 else 1) else 87

theorem enc_plain {k fr to ti ep ix li : Int} {so : Bool} {id : List UInt8} {bs : List (List UInt8 × List UInt8)} {w w' : World} {x : Ending} (h : EncAll k fr to ti ep ix li so id bs w x w') :
    ∃ u n r, x = .returned (.tuple #[.slice u n r, .int .i64 (encR k fr to ti ep ix li so id bs)]) ∧ HB w' (.slice u n r) (encL k fr to ti ep ix li so id bs) ∧ Below w.heap.size w w' := by
  rcases h with ⟨h1, h2, hb, h3, h4⟩ | ⟨h1, rfl, hb⟩
  · cases hok : okE k fr to ti ep ix li so id bs with
    | true =>
      obtain ⟨v, rfl, hv⟩ := h3 hok
      have eL : encL k fr to ti ep ix li so id bs = numL (clampN k) ++ wrE k fr to ti ep ix li so id bs := if_pos ⟨⟨h1, h2⟩, hok⟩
      have eR : encR k fr to ti ep ix li so id bs = 0 := (if_pos ⟨h1, h2⟩).trans (if_pos hok)
      rw [eL, eR]
      obtain ⟨u, r, rfl⟩ := hv.shape
      exact ⟨u, _, r, rfl, hv, hb⟩
    | false =>
      obtain rfl := h4 hok
      have hn : ¬ okE k fr to ti ep ix li so id bs = true := by rw [hok]; simp
      have eL : encL k fr to ti ep ix li so id bs = [] := if_neg fun h => hn h.2
      have eR : encR k fr to ti ep ix li so id bs = 1 := (if_pos ⟨h1, h2⟩).trans (if_neg hn)
      rw [eL, eR]
      exact ⟨none, 0, 0, rfl, HB.nil _, hb⟩
  · have eL : encL k fr to ti ep ix li so id bs = [] := if_neg fun h => h1 h.1
    have eR : encR k fr to ti ep ix li so id bs = 87 := if_neg h1
    rw [eL, eR]
    exact ⟨none, 0, 0, rfl, HB.nil _, hb⟩

/-- What bytes are read as, nothing where they are none. -/
def decZ (b : List UInt8) : Nat × AP := if (decF b).1 = 0 then (decF b).2 else (0, AP0)

theorem dec_plain {b : List UInt8} {w w' : World} {x : Ending} (h : DecTold (decF b) w x w') :
    ∃ p c q d, x = .returned (.tuple #[.agg #[.int .i64 ((decZ b).1 : Int), .slice p (decZ b).2.id.length c, .int .i64 ((decZ b).2.fr : Int), .int .i64 ((decZ b).2.to : Int), .int .i64 ((decZ b).2.ti : Int), .bool (decZ b).2.so, .int .i64 ((decZ b).2.ep : Int), .int .i64 ((decZ b).2.ix : Int), .int .i64 ((decZ b).2.li : Int), .slice q (decZ b).2.bs.length d], .int .i64 (decF b).1]) ∧ HB w' (.slice p (decZ b).2.id.length c) (decZ b).2.id ∧ BA w' (.slice q (decZ b).2.bs.length d) (decZ b).2.bs ∧ Below w.heap.size w w' := by
  obtain ⟨hb, h1, h2⟩ := h
  by_cases he : (decF b).1 = 0
  · obtain ⟨idv, bav, rfl, hi, hba⟩ := h1 he
    have e : decZ b = (decF b).2 := if_pos he
    rw [e, he]
    obtain ⟨p, c, rfl⟩ := hi.shape
    obtain ⟨q, d, rfl⟩ := hba.shape
    exact ⟨p, c, q, d, rfl, hi, hba, hb⟩
  · obtain rfl := h2 he
    have e : decZ b = (0, AP0) := if_neg he
    rw [e]
    exact ⟨none, 0, none, 0, rfl, HB.nil _, BA.nil _, hb⟩

set_option maxRecDepth 100000 in
set_option maxHeartbeats 8000000 in
theorem askBytes_walk (k fr to ti ep ix li : Int) (so : Bool) (id : List UInt8) (bs : List (List UInt8 × List UInt8)) (idv bav v : Value) (b : List UInt8) (w : World) (hid : HB w idv id) (hba : BA w bav bs) (hv : HB w v b) (hsz : b.length ≤ 140737488351232) :
    Calls Try.prog 3 #[.agg #[.int .i64 k, idv, .int .i64 fr, .int .i64 to, .int .i64 ti, .bool so, .int .i64 ep, .int .i64 ix, .int .i64 li, bav], v] w fun e w' => e = .returned (.bool true) ∧ Below w.heap.size w w' := by
  obtain ⟨pi, ci, rfl⟩ := hid.shape
  obtain ⟨pb, cb, rfl⟩ := hba.shape
  obtain ⟨pv, cv, rfl⟩ := hv.shape
  have a0 : AB (w.alloc (.cells #[.int .i64 k, .slice pi id.length ci, .int .i64 fr, .int .i64 to, .int .i64 ti, .bool so, .int .i64 ep, .int .i64 ix, .int .i64 li, .slice pb bs.length cb] 25)) w.heap.size #[.int .i64 k, .slice pi id.length ci, .int .i64 fr, .int .i64 to, .int .i64 ti, .bool so, .int .i64 ep, .int .i64 ix, .int .i64 li, .slice pb bs.length cb] := heap_alloc_new w _
  have bA := (Below.refl w.heap.size w).alloc (Nat.le_refl _) (.cells #[.int .i64 k, .slice pi id.length ci, .int .i64 fr, .int .i64 to, .int .i64 ti, .bool so, .int .i64 ep, .int .i64 ix, .int .i64 li, .slice pb bs.length cb] 25)
  have hAw := fun W => akAwake_any W
  by_cases h60 : 60 < bs.length
  · have h60' : (60 : Int) < (bs.length : Int) := by omega
    have hA1 := hAw (w.alloc (.cells #[.int .i64 k, .slice pi id.length ci, .int .i64 fr, .int .i64 to, .int .i64 ti, .bool so, .int .i64 ep, .int .i64 ix, .int .i64 li, .slice pb bs.length cb] 25))
    clear hAw
    go_enter Try.func3, Try.ntmps3
    go_wp2_with fail
    go_at_call 6
    refine hA1.mono ?_
    rintro e w1 ⟨rfl, hb⟩
    have hF := bA.trans (hb.mono bA.size)
    clear hA1 bA hb a0
    go_wp2
    go_ret
    exact ⟨rfl, hF⟩
  have h60' : ¬ (60 : Int) < (bs.length : Int) := by omega
  obtain ⟨wA, hWA⟩ : ∃ x, x = w.alloc (.cells #[.int .i64 k, .slice pi id.length ci, .int .i64 fr, .int .i64 to, .int .i64 ti, .bool so, .int .i64 ep, .int .i64 ix, .int .i64 li, .slice pb bs.length cb] 25) := ⟨_, rfl⟩
  rw [← hWA] at a0 bA
  have hK := clone_any _ b wA (hv.later bA) (by omega)
  rw [hWA] at hK
  have HWA : Hid (wA = w.alloc (.cells #[.int .i64 k, .slice pi id.length ci, .int .i64 fr, .int .i64 to, .int .i64 ti, .bool so, .int .i64 ep, .int .i64 ix, .int .i64 li, .slice pb bs.length cb] 25)) := hWA
  clear hWA
  go_enter Try.func3, Try.ntmps3
  go_wp2_with fail
  refine hK.mono ?_
  clear hK
  rintro x w1 ⟨pc, cc, rfl, hc1, hb1⟩
  rw [← HWA.out] at hb1
  have a1 := a0.later hb1
  have b1 := bA.trans (hb1.mono bA.size)
  clear hb1 a0 bA HWA
  have hE := encode_any k fr to ti ep ix li so pi pb ci cb id bs w1 (hid.later b1) (hba.later b1) (by omega)
  obtain ⟨c0, c1, c2, c3, c4, c5, c6, c7, c8, c9⟩ := ask_cells a1
  go_wp2_with fail
  refine hE.mono ?_
  clear hE c0 c1 c2 c3 c4 c5 c6 c7 c8 c9
  rintro x w2 hx2
  obtain ⟨u2, n2, r2, rfl, hX, hb2⟩ := enc_plain hx2
  have a2 := a1.later hb2
  have b2 := b1.trans (hb2.mono b1.size)
  have hc2 := hc1.later hb2
  clear hx2 hb2 a1 b1 hc1
  have hE := rencode_any k fr to ti ep ix li so pi pb ci cb id bs w2 (hid.later b2) (hba.later b2)
  obtain ⟨c0, c1, c2, c3, c4, c5, c6, c7, c8, c9⟩ := ask_cells a2
  go_wp2_with fail
  refine hE.mono ?_
  clear hE c0 c1 c2 c3 c4 c5 c6 c7 c8 c9
  rintro x w3 hx3
  obtain ⟨u3, n3, r3, rfl, hY, hb3⟩ := enc_plain hx3
  have b3 := b2.trans (hb3.mono b2.size)
  have hc3 := hc2.later hb3
  have hX3 := hX.later hb3
  clear hx3 hb3 a2 b2 hc2 hX
  generalize encL k fr to ti ep ix li so id bs = EL at *
  generalize encR k fr to ti ep ix li so id bs = ER at *
  have hD := decode_any (.slice pc b.length cc) b w3 hc3 hsz
  go_wp2_with fail
  refine hD.mono ?_
  clear hD
  rintro x w4 hx4
  obtain ⟨p4, c4, q4, d4, rfl, hI4, hB4, hb4⟩ := dec_plain hx4
  clear hx4
  obtain ⟨zk, hzk⟩ : ∃ z, z = (decZ b).1 := ⟨_, rfl⟩
  obtain ⟨za, hza⟩ : ∃ z, z = (decZ b).2 := ⟨_, rfl⟩
  rw [← hza] at hI4 hB4
  rw [← hza, ← hzk]
  have HZ : Hid (zk = (decZ b).1 ∧ za = (decZ b).2) := ⟨hzk, hza⟩
  clear hzk hza
  have bN := (Below.refl w4.heap.size w4).alloc (Nat.le_refl _) (.cells #[.int .i64 (zk : Int), .slice p4 za.id.length c4, .int .i64 (za.fr : Int), .int .i64 (za.to : Int), .int .i64 (za.ti : Int), .bool za.so, .int .i64 (za.ep : Int), .int .i64 (za.ix : Int), .int .i64 (za.li : Int), .slice q4 za.bs.length d4] 25)
  have aN : AB (w4.alloc (.cells #[.int .i64 (zk : Int), .slice p4 za.id.length c4, .int .i64 (za.fr : Int), .int .i64 (za.to : Int), .int .i64 (za.ti : Int), .bool za.so, .int .i64 (za.ep : Int), .int .i64 (za.ix : Int), .int .i64 (za.li : Int), .slice q4 za.bs.length d4] 25)) w4.heap.size #[.int .i64 (zk : Int), .slice p4 za.id.length c4, .int .i64 (za.fr : Int), .int .i64 (za.to : Int), .int .i64 (za.ti : Int), .bool za.so, .int .i64 (za.ep : Int), .int .i64 (za.ix : Int), .int .i64 (za.li : Int), .slice q4 za.bs.length d4] := heap_alloc_new w4 _
  have b4 := b3.trans (hb4.mono b3.size)
  have bM := hb4.trans (bN.mono hb4.size)
  have b5 := b4.trans (bN.mono b4.size)
  have hI5 := hI4.later bN
  have hB5 := hB4.later bN
  have hc5 := hc3.later bM
  have hX5 := hX3.later bM
  have hY5 := hY.later bM
  clear hI4 hB4 hc3 hX3 hY bM hb4 b3 b4
  obtain ⟨W5, hW5⟩ : ∃ x, x = w4.alloc (.cells #[.int .i64 (zk : Int), .slice p4 za.id.length c4, .int .i64 (za.fr : Int), .int .i64 (za.to : Int), .int .i64 (za.ti : Int), .bool za.so, .int .i64 (za.ep : Int), .int .i64 (za.ix : Int), .int .i64 (za.li : Int), .slice q4 za.bs.length d4] 25) := ⟨_, rfl⟩
  have HW5 : Hid (W5 = w4.alloc (.cells #[.int .i64 (zk : Int), .slice p4 za.id.length c4, .int .i64 (za.fr : Int), .int .i64 (za.to : Int), .int .i64 (za.ti : Int), .bool za.so, .int .i64 (za.ep : Int), .int .i64 (za.ix : Int), .int .i64 (za.li : Int), .slice q4 za.bs.length d4] 25)) := hW5
  rw [← hW5] at bN aN b5 hI5 hB5 hc5 hX5 hY5
  have hD := rdecode_any (.slice pv b.length cv) b W5 (hv.later b5) hsz
  rw [hW5] at hD
  clear hW5
  go_wp2_with fail
  refine hD.mono ?_
  clear hD
  rintro x w6 hx6
  rw [← HW5.out] at hx6
  obtain ⟨p6, c6, q6, d6, rfl, hI6, hB6, hb6⟩ := dec_plain hx6
  clear hx6
  rw [← HZ.out.2] at hI6 hB6
  rw [← HZ.out.1, ← HZ.out.2]
  have aN6 := aN.later hb6
  have bO := (Below.refl w6.heap.size w6).alloc (Nat.le_refl _) (.cells #[.int .i64 (zk : Int), .slice p6 za.id.length c6, .int .i64 (za.fr : Int), .int .i64 (za.to : Int), .int .i64 (za.ti : Int), .bool za.so, .int .i64 (za.ep : Int), .int .i64 (za.ix : Int), .int .i64 (za.li : Int), .slice q6 za.bs.length d6] 25)
  have aO : AB (w6.alloc (.cells #[.int .i64 (zk : Int), .slice p6 za.id.length c6, .int .i64 (za.fr : Int), .int .i64 (za.to : Int), .int .i64 (za.ti : Int), .bool za.so, .int .i64 (za.ep : Int), .int .i64 (za.ix : Int), .int .i64 (za.li : Int), .slice q6 za.bs.length d6] 25)) w6.heap.size #[.int .i64 (zk : Int), .slice p6 za.id.length c6, .int .i64 (za.fr : Int), .int .i64 (za.to : Int), .int .i64 (za.ti : Int), .bool za.so, .int .i64 (za.ep : Int), .int .i64 (za.ix : Int), .int .i64 (za.li : Int), .slice q6 za.bs.length d6] := heap_alloc_new w6 _
  have bQ := hb6.trans (bO.mono hb6.size)
  have b7 := b5.trans (bQ.mono b5.size)
  have hI7 := hI5.later bQ
  have hB7 := hB5.later bQ
  have hJ7 := hI6.later bO
  have hC7 := hB6.later bO
  have hc7 := hc5.later bQ
  have hX7 := hX5.later bQ
  have hY7 := hY5.later bQ
  have aN7 := aN6.later bO
  clear hI6 hB6 hI5 hB5 hc5 hX5 hY5 bN bQ hb6 aN6 aN HW5 b5
  have hQ := equal_t _ _ EL EL _ hX7 hY7 rfl
  have hS := aksame_true zk za.fr za.to za.ti za.ep za.ix za.li za.so p4 p6 c4 c6 za.id _ _ za.bs _ hI7 hJ7 hB7 hC7
  obtain ⟨d0, d1, d2, d3, d4', d5, d6', d7, d8, d9⟩ := ask_cells aN7
  obtain ⟨e0, e1, e2, e3, e4, e5, e6, e7, e8, e9⟩ := ask_cells aO
  clear hI7 hJ7 hB7 hC7 hX7 hY7 aN7 aO bO
  have hEE : (ER == ER) = true := by simp
  generalize (decF b).1 = DE at *
  have hDE : (DE == DE) = true := by simp
  go_wp2_with fail
  refine hQ.mono ?_
  clear hQ
  rintro x w8 ⟨rfl, rfl⟩
  go_wp2_with fail
  refine hS.mono ?_
  clear hS
  rintro x w9 ⟨rfl, hb9⟩
  have b9 := b7.trans (hb9.mono b7.size)
  have hc9 := hc7.later hb9
  have hG := equal_t _ _ b b _ hc9 (hv.later b9) rfl
  clear hc9 hc7 hb9 b7 d0 d1 d2 d3 d4' d5 d6' d7 d8 d9 e0 e1 e2 e3 e4 e5 e6 e7 e8 e9
  go_wp2_with fail
  refine hG.mono ?_
  clear hG
  rintro x w10 ⟨rfl, rfl⟩
  have hA6 := hAw w10
  clear hAw
  go_wp2_with fail
  go_at_call 6
  refine hA6.mono ?_
  rintro x w11 ⟨rfl, hb11⟩
  have bH := b9.trans (hb11.mono b9.size)
  clear hA6 b9 hb11
  go_wp2
  go_ret
  exact ⟨rfl, bH⟩

end Go.Proofs.Ythkgbgkijdeaoaa

namespace Go.Proofs.Ythkgbgkijdeaoaa
open Go.ChangeShapes Go.WideShapes Go.ChangeAt Go.RowKit

set_option maxRecDepth 100000 in
theorem askBytesContract (H : Type) (enc : TypeId × Value → H) (W : World) (base : Nat) (args : Array Value) (ds gs : List (DataW H)) (before : List MemPlace)
    (hval : ∀ (j : Nat) t v, Try.f3.params[j]? = some t → args[j]? = some v → Value.okWide Try.prog W .any base t v)
    (hW : DataW.Whole enc Try.prog Try.f3.params.toList Rows.askBytesSpec.vars false W args.toList ds gs before) (hsz0 : (DataW.weightsEach Try.prog (Try.f3.params.toList ++ Rows.askBytesSpec.plain.varTypes Try.prog) (ds ++ gs)).all (· ≤ reachBytes) = true) :
    Calls Try.prog 3 args W fun e W' => ∃ v, e = .returned v ∧ Rows.askBytesSpec.post enc Try.prog Try.f3 false true false false W args v W' := by
  have hW' := hW
  obtain ⟨p, q, hA0, hV, rfl, hfz, hnd⟩ := hW
  have hA : DataW.TrodAll enc Try.prog W 0 (fun _ => true) true Try.f3.params.toList args.toList ds p := hA0
  rw [Try.params3] at hA hval hsz0
  obtain ⟨v0, vs0, d0, ds0, p0, q0, hargs, rfl, rfl, h0, r0⟩ := trodAll_cons hA
  obtain ⟨v1, vs1, d1, ds1, p1, q1, rfl, rfl, rfl, h1, r1⟩ := trodAll_cons r0
  obtain ⟨rfl, rfl, rfl⟩ := trodAll_nil r1
  obtain rfl : args = #[v0, v1] := by cases args; simp_all
  obtain ⟨rfl, rfl⟩ := trodVars_none hV
  have k0 := h0
  have lt0 : ∀ x ∈ p0, x.block < W.heap.size := by obtain ⟨m, hm⟩ := k0; exact DataW.trod_lt m _ _ _ hm
  obtain ⟨qk0, qf0, qt0, qi0, qe0, qx0, ql0, qs0, qd0, qb0, ll0, bs0, rfl, hl0, hz0⟩ := open_askF (hval 0 25 v0 rfl rfl) h0
  have k1 := h1
  have lt1 : ∀ x ∈ p1, x.block < W.heap.size := by obtain ⟨m, hm⟩ := k1; exact DataW.trod_lt m _ _ _ hm
  obtain ⟨l1, hl1, he1⟩ := open_hb (hval 1 22 v1 rfl rfl) h1
  have hr1 : l1.length ≤ 140737488351232 := hb_reach hsz0 1 rfl rfl he1
  clear hA0
  simp only [List.append_nil] at hW'
  refine (askBytes_walk qk0 qf0 qt0 qi0 qe0 qx0 ql0 qs0 ll0 bs0 qd0 qb0 v1 l1 W hl0 hz0 hl1 (by omega)).mono fun e W' ⟨he, bel⟩ => ?_
  subst he
  exact ⟨_, rfl, _, _, _, [], _, [], hW', trodAll_mk1 (shut_bool Try.underlying4 _), (trodAll_cons_mk (Below.trod laidOut (by kernel_rfl) (of_decide_eq_true (by kernel_rfl)) k0 bel lt0) (trodAll_cons_mk (Below.trod laidOut (by kernel_rfl) (of_decide_eq_true (by kernel_rfl)) k1 bel lt1) trodAll_mk0)), rfl, bel.frame _, fun h => by cases h⟩

set_option maxRecDepth 100000 in
theorem askBytesLifted (os : Os) (started : os.Started) (H : Type) (enc : TypeId × Value → H) :
    ReturnsInHanded {} Try.checked os 3 .any (Rows.askBytesSpec.pre6 enc Try.prog Try.f3 Rows.askBytesRow.domain false) (Rows.askBytesSpec.post enc Try.prog Try.f3 false true false false) := by
  refine returnsInHanded_of_change_sized (C := Try.checked) own started (by kernel_rfl) Try.func3
    (ChangeSpec.witness6 (enc := enc) (C := Try.checked) false ⟨#[], #[.agg #[.int .i64 0, .slice none 0 0, .int .i64 0, .int .i64 0, .int .i64 0, .bool false, .int .i64 0, .int .i64 0, .int .i64 0, .slice none 0 0], .slice none 0 0], []⟩ 8 (by kernel_rfl) (by kernel_rfl) (by kernel_rfl) (by kernel_rfl)) ?_
  intro W base args ds gs before hval hW _ hsz _
  exact askBytesContract H enc W base args ds gs before hval hW hsz

theorem askBytes_holds : Rows.AskBytesSaid :=
  OpenClaim.holds_of_wide 3 Try.f3 rfl rfl rfl rfl rfl rfl rfl ⟨rfl, rfl, rfl, rfl, rfl⟩ rfl rfl rfl rfl rfl (by kernel_rfl) Try.func3 (by kernel_rfl)
    (of_decide_eq_true (by kernel_rfl)) (by unfold Func.isWrapper; first | (rw [if_pos (by decide +kernel)]; kernel_rfl) | (rw [if_neg (by decide +kernel)]; exact ⟨rfl, rfl⟩))
    (fun os started H enc _ => askBytesLifted os started H enc)

#print axioms askBytes_holds
end Go.Proofs.Ythkgbgkijdeaoaa
