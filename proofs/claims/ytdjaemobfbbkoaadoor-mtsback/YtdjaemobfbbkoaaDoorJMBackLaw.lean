/- What this text proves: the walk of the statement MtsBack over this program: what was signed is verified, under the public key alone. -/
import Derived.Test.YtdjaemobfbbkoaaDoorJMSignW
import Derived.Test.YtdjaemobfbbkoaaDoorJMPublicA
import Derived.Test.YtdjaemobfbbkoaaDoorJMVerify
import Derived.Test.YtdjaemobfbbkoaaDoorJCopyPart
namespace Go.Proofs.YtdjaemobfbbkoaaDoor
open Go.RowKit

theorem beq_swap (a b : List UInt8) : (a == b) = (b == a) := by
  rw [Bool.eq_iff_iff, beq_iff_eq, beq_iff_eq]
  exact eq_comm

theorem Tabs.size {w : World} (h : Tabs w) : 1 < w.heap.size := by
  obtain ⟨x, hx⟩ : ∃ x, kTab[0]? = some x := ⟨_, rfl⟩
  exact cell_lt (h.2 0 x hx)

theorem cell_only {g b o : Nat} {w w' : World} {v : Value} (ho : Only g w w') (hc : w.cell? ⟨b, o, none⟩ = some v) (hb : b ≠ g) : w'.cell? ⟨b, o, none⟩ = some v := by
  rw [World.cell?_of_block (w := w) (ho.block b hb (cell_lt hc))]
  exact hc

set_option maxRecDepth 100000 in
set_option maxHeartbeats 8000000 in
theorem backMWalk (size height index : Int) (v u ov : Value) (seed b other : List UInt8) (w : World) (h : HB w v seed) (hb : HB w u b) (ho : HB w ov other) (hT : Tabs w) :
    Calls Tryd.prog 4 #[.int .i64 size, v, .int .i64 height, .int .i64 index, u, ov] w fun e w' => e = .returned (.bool true) ∧ Below w.heap.size w w' := by
  have hw1 := hT.size
  obtain ⟨p, c, rfl⟩ := h.shape
  obtain ⟨q, d, rfl⟩ := hb.shape
  obtain ⟨po, co, rfl⟩ := ho.shape
  obtain ⟨U, hU, hU2⟩ := u64_nat size
  obtain ⟨H, hH, hH2⟩ := u64_nat height
  obtain ⟨I, hI, hI2⟩ := u64_nat index
  have hsl := h.len
  unfold maxLen at hsl
  obtain ⟨T, hTT⟩ : ∃ T, T = min seed.length 64 := ⟨_, rfl⟩
  have hf := h.front T (by omega)
  have HfL : Hid ((seed.take T).length = T) := by
    show (seed.take T).length = T
    simp
    omega
  have hT64 : T ≤ 64 := by omega
  have hTc : T ≤ c := by omega
  obtain ⟨i0, hi, hz0, hz1, hz2⟩ := info_parts i_u8
  have hcase : (seed.length = T ∧ seed.length ≤ 64) ∨ (64 = T ∧ 64 < seed.length) := by omega
  clear hTT
  generalize seed.take T = t at *
  have hn1 : 1 ≤ 1 + U % 4 := by omega
  have hn2 : 1 + U % 4 ≤ 32 := by omega
  have hh : H % 4 ≤ 8 := by omega
  have hN := new_ok (1 + U % 4) (H % 4) (.slice p T c) t w hf (by rw [HfL.out]; exact hT64) hn1 hn2 hh
  have hN3 : ((1 + U % 4 : Nat) : Int) = 1 + (U : Int) % 4 := by omega
  have hH3 : ((H % 4 : Nat) : Int) = (H : Int) % 4 := by omega
  rw [hN3, hH3] at hN
  go_enter Tryd.func4, Tryd.ntmps4
  rcases hcase with ⟨hn, hq⟩ | ⟨hn, hq⟩
  case' inl => have hq2 : (seed.length : Int) ≤ 64 := by omega
  case' inr => have hq2 : 64 < (seed.length : Int) := by omega
  all_goals
    go_wp2_with (first
      | (go_at_call 14; refine hN.mono ?_; rintro e w1 ⟨g, rfl, hg, k1, hb1⟩)
      | (at_make; refine wpList_make_full _ rfl _ _ 22 rfl w1.heap.size 5 i0 (.int .u8 0) 1 Tryd.underlying22 hi hz0 hz1 .i64 .i64 _ _ (1 + U % 4) rfl rfl (by omega) (by omega) (by rw [hz2]; omega) (by unfold maxLen; omega) (Nat.le_refl _) ?_))
    intro w2 hown2 hgrow2
    generalize hNN : 1 + U % 4 = n at *
    generalize hHH : H % 4 = hg8 at *
    rw [← hN3, ← hH3]
    clear hN hNN hU hU2 hn hq hq2 hN3
    have hpos : 0 < 2 ^ hg8 := Nat.pow_pos (by decide)
    have hh3 : hg8 ≤ 3 := by omega
    clear hHH hH3 hH hH2
    rw [made_bcs] at hown2
    have hb2 : Below w1.heap.size w1 w2 := (Below.refl _ w1).grown hgrow2 (Nat.le_refl _) (by intro k hk; cases hk)
    have hu2 := hb.later (hb1.trans (hb2.mono hb1.size))
    clear hgrow2 h hb
    go_wp2_with (refine wpList_copy_into rfl (.tmp 45) (.tmp 46) 22 22 rfl 5 Tryd.underlying22 s_u8 w1.heap.size n q _ _ rfl rfl w1.heap.size _ hown2 b hu2 ?_)
    intro w3 k3 hown3 hgrow3
    have hb3 : Below w1.heap.size w1 w3 := hb2.grown hgrow3 hb2.size (by intro k hk; cases hk; exact Nat.le_refl _)
    have hD3 := HB.of_owns hown3
    have HDl : Hid ((b.take n ++ List.replicate (n - b.length) (0 : UInt8)).length = n) := by
      show (b.take n ++ List.replicate (n - b.length) (0 : UInt8)).length = n
      simp
      omega
    clear hown2 hown3 hgrow3 hu2 hb2
    generalize b.take n ++ List.replicate (n - b.length) (0 : UInt8) = D at *
    obtain ⟨P2, hP2⟩ : ∃ P2, P2 = 2 ^ hg8 := ⟨_, rfl⟩
    have hP8 : P2 ≤ 8 := by
      have : 2 ^ hg8 ≤ 2 ^ 3 := Nat.pow_le_pow_right (by decide) hh3
      omega
    have hPW : IntKind.u64.wrap ((2 : Int) ^ hg8) = (P2 : Int) := by
      have e : ((2 : Int) ^ hg8) = (P2 : Int) := by rw [hP2]; push_cast; rfl
      rw [e, IntKind.wrap_u64]
      omega
    have hP0 : ¬ (P2 : Int) = 0 := by omega
    have hIw : wrap64 ((I : Int) % (P2 : Int)) = ((I % P2 : Nat) : Int) := by
      have : ((I % P2 : Nat) : Int) = (I : Int) % (P2 : Int) := by omega
      rw [this]
      have h0 := Int.emod_nonneg (I : Int) hP0
      have h1 := Int.emod_lt_of_pos (I : Int) (show (0 : Int) < (P2 : Int) by omega)
      unfold wrap64
      omega
    have hiL : I % P2 < 2 ^ hg8 := by rw [← hP2]; exact Nat.mod_lt _ (by omega)
    have hb03 := hb1.trans (hb3.mono hb1.size)
    have hSg := msign_ok g n hg8 (I % P2) t D (.slice (some ⟨w1.heap.size, 0, none⟩) n n) w3 (k1.later hb3) (by omega) (by rw [HfL.out]; exact hT64) hn1 hn2 hh (hT.later hb03) hD3 HDl.out hiL
    generalize hii : I % P2 = i at *
    clear hP2 hii
    go_wp2_with fail
    refine hSg.mono ?_
    rintro e w4 ⟨ca, pa, rfl, pc4, ⟨base, hgb, rs4⟩, ⟨B, ks4, hgB, hB4⟩, o4⟩
    obtain ⟨qc, dc, rfl⟩ := pc4.shape
    obtain ⟨qp, dp, rfl⟩ := rs4.pa.shape
    simp only [List.length_map, List.length_range] at rs4 ⊢
    obtain ⟨p9, c9, ko3, _, _⟩ := k1.later hb3
    have hD4 := ko3.hb o4 hD3
    have ho4 := ko3.hb o4 (ho.later hb03)
    have T4 := (hT.later hb03).only o4 (by omega)
    have hW4 : (w.heap.size : Nat) ≤ w4.heap.size := Nat.le_trans hb03.size o4.size
    have hbe4 : Below w.heap.size w w4 := hb03.trans (o4.below hg)
    have hgw4 : g < w4.heap.size := Nat.lt_of_lt_of_le ko3.lt o4.size
    clear hSg hIw hPW ko3 k1 hD3
    have HSW : Hid (wholeB n (signW n t (i : Int) D) = true) := sign_whole n hn2 t (by rw [HfL.out]; exact hT64) (i : Int) D
    have hup := up_back n t i hg8 hiL D
    have hrange : (List.range hg8).map (fun k => treeS n t k (besideP (i / 2 ^ k))) = pathW n t i hg8 := rfl
    have hshp := pathW_shp n hn2 t i hg8
    have hTL : t.length ≤ 64 := by rw [HfL.out]; exact hT64
    obtain ⟨PW, hPWW⟩ : ∃ PW, PW = pathW n t i hg8 := ⟨_, rfl⟩
    obtain ⟨RT, hRT⟩ : ∃ RT, RT = treeS n t hg8 0 := ⟨_, rfl⟩
    obtain ⟨CH, hCH⟩ : ∃ CH, CH = signW n t (i : Int) D := ⟨_, rfl⟩
    rw [← hPWW, ← hCH, ← hRT] at hup
    rw [← hPWW] at hrange hshp
    rw [← hCH] at pc4 HSW
    have hPub : ∀ W, KS W g n hg8 t B → B ≤ W.heap.size → Tabs W → Calls Tryd.prog 11 #[.pointer (some ⟨g, 0, none⟩)] W fun e w' => ∃ p c, e = .returned (.slice p RT.length c) ∧ HB w' (.slice p RT.length c) RT ∧ KS w' g n hg8 t B ∧ Only g W w' := by
      rw [hRT]
      exact fun W k hBW hTW => public_any g n hg8 B t W k (by omega) hgB hBW hTL hn1 hn2 hh hTW
    have hVer : ∀ W pv pub, HB W pv pub → HB W (.slice (some ⟨w1.heap.size, 0, none⟩) n n) D → PA W (.slice qc CH.length dc) CH → PA W (.slice qp hg8 dp) PW → Tabs W → Calls Tryd.prog 15 #[.int .i64 (n : Int), pv, .int .i64 (hg8 : Int), .slice (some ⟨w1.heap.size, 0, none⟩) n n, .agg #[.int .i64 (i : Int), .slice qc CH.length dc, .slice qp hg8 dp]] W fun e w' => e = .returned (.bool (RT == pub)) ∧ Below W.heap.size W w' := by
      intro W pv pub h1 h2 h3 h4 h5
      have := ver_in n hg8 i pv (.slice (some ⟨w1.heap.size, 0, none⟩) n n) (.slice qc CH.length dc) (.slice qp hg8 dp) CH PW D pub W h1 h2 h3 h4 h5 hn1 hn2 hh hiL HSW.out hshp HDl.out
      rw [hup] at this
      exact this
    have hCL : 3 ≤ CH.length := by
      have := HSW.out
      simp [wholeB] at this
      omega
    rw [← hCH]
    obtain ⟨SF, hSF⟩ : ∃ SF : Nat → List UInt8, SF = fun k => treeS n t k (besideP (i / 2 ^ k)) := ⟨_, rfl⟩
    rw [← hSF] at rs4 hrange
    have hRP : ∀ W, RS W base (.slice qp hg8 dp) hg8 SF → PA W (.slice qp hg8 dp) PW := fun W r => by rw [← hrange]; exact r.pa
    clear hup hshp HSW hRT hiL hCH hPWW hrange hSF
    go_wp2_with fail
    have bA := (Below.refl _ w4).alloc (Nat.le_refl _) (.cells #[.int .i64 (i : Int), .slice qc CH.length dc, .slice qp hg8 dp] 30)
    have a0 : (w4.alloc (.cells #[.int .i64 (i : Int), .slice qc CH.length dc, .slice qp hg8 dp] 30)).cell? ⟨w4.heap.size, 0, none⟩ = some (.int .i64 (i : Int)) := by rw [cell_of_row _ _ 0 _ _ _ (heap_alloc_new w4 _)]; rfl
    have a1 : (w4.alloc (.cells #[.int .i64 (i : Int), .slice qc CH.length dc, .slice qp hg8 dp] 30)).cell? ⟨w4.heap.size, 1, none⟩ = some (.slice qc CH.length dc) := by rw [cell_of_row _ _ 1 _ _ _ (heap_alloc_new w4 _)]; rfl
    have a2 : (w4.alloc (.cells #[.int .i64 (i : Int), .slice qc CH.length dc, .slice qp hg8 dp] 30)).cell? ⟨w4.heap.size, 2, none⟩ = some (.slice qp hg8 dp) := by rw [cell_of_row _ _ 2 _ _ _ (heap_alloc_new w4 _)]; rfl
    have hgn : w4.heap.size ≠ g := by omega
    have ksA := ks4.later bA
    have pcA := pc4.later bA
    have rsA := rs4.later bA
    have hDA := hD4.later bA
    have hoA := ho4.later bA
    have TA := T4.later bA
    have hbeA := hbe4.trans (bA.mono hW4)
    have hBA : B ≤ (w4.alloc (.cells #[.int .i64 (i : Int), .slice qc CH.length dc, .slice qp hg8 dp] 30)).heap.size := Nat.le_trans hB4 bA.size
    clear ks4 pc4 rs4 hD4 ho4 T4 hbe4 bA o4 hb03 hb1 hb3 hf ho hT HfL HDl
    generalize w4.alloc (.cells #[.int .i64 (i : Int), .slice qc CH.length dc, .slice qp hg8 dp] 30) = W at *
    have hbd : Below W.heap.size W W.drew := (Below.refl _ W).drew
    have cP1 := hPub W.drew (ksA.later hbd) (by simpa using hBA) (TA.later hbd)
    obtain ⟨dA, q1, m1, e1, q2, m2, e2, koA, _, _, _⟩ := ksA.ko
    go_region_held3 (fun w' => w'.cell? ⟨w4.heap.size, 0, none⟩ = some (.int .i64 (i : Int)) ∧ w'.cell? ⟨w4.heap.size, 1, none⟩ = some (.slice qc CH.length dc) ∧ w'.cell? ⟨w4.heap.size, 2, none⟩ = some (.slice qp hg8 dp)) (first | exact ⟨a0, a1, a2⟩ | exact ⟨b0, b1, b2⟩ | exact ⟨c0, c1, c2⟩ | exact ⟨d0, d1, d2⟩ | exact ⟨f0, f1, f2⟩) (first
      | (go_at_call 11; refine cP1.mono ?_; clear cP1; rintro e w5 ⟨p5, c5, rfl, h5, ks5, o5'⟩; have o5 : Only g W w5 := (Only.of_below hbd (Nat.le_trans (Nat.le_of_lt hgB) hBA)).trans o5'; have pc5 := koA.pa o5 pcA (by omega); have rs5 := rsA.only koA o5 hgb; have pp5 := hRP _ rs5; have hD5 := koA.hb o5 hDA; have ho5 := koA.hb o5 hoA; have T5 := TA.only o5 (by omega); have b0 := cell_only o5 a0 hgn; have b1 := cell_only o5 a1 hgn; have b2 := cell_only o5 a2 hgn; have hbe5 := hbeA.trans (o5.below hg); have cV1 := hVer w5 _ RT h5 hD5 pc5 pp5 T5; have hBB5 : B ≤ w5.heap.size := Nat.le_trans hBA o5.size)
      | (go_at_call 15; refine cV1.mono ?_; clear cV1; rintro e w6 ⟨rfl, hb6⟩; have c0 := cell_later hb6 b0; have c1 := cell_later hb6 b1; have c2 := cell_later hb6 b2; have hbe6 := hbe5.trans (hb6.mono hbe5.size); have cV2 := hVer w6 _ other (ho5.later hb6) (hD5.later hb6) (pc5.later hb6) (pp5.later hb6) (T5.later hb6); rw [beq_self_eq_true])
      | (go_at_call 15; refine cV2.mono ?_; clear cV2; rintro e w7 ⟨rfl, hb7⟩; have d0 := cell_later hb7 c0; have d1 := cell_later hb7 c1; have d2 := cell_later hb7 c2; have hb67 := hb6.trans (hb7.mono hb6.size); have hbe7 := hbe5.trans (hb67.mono hbe5.size); have ks7 := ks5.later hb67; have cP2 := hPub w7 ks7 (Nat.le_trans hBB5 hb67.size) (T5.later hb67); have ho7 := ho5.later hb67)
      | (go_at_call 11; refine cP2.mono ?_; clear cP2; rintro e w8 ⟨p8, c8, rfl, h8, ks8, o8⟩; obtain ⟨dB, q3, m3, e3, q4, m4, e4, koB, _, _, _⟩ := ks7.ko; have f0 := cell_only o8 d0 hgn; have f1 := cell_only o8 d1 hgn; have f2 := cell_only o8 d2 hgn; have hbe8 := hbe7.trans (o8.below hg); have cE := equal_any _ _ _ _ _ (koB.hb o8 ho7) h8)
      | (go_at_call 10; refine cE.mono ?_; clear cE; rintro e w9 ⟨rfl, rfl⟩))
    go_wp2
    go_ret
    refine ⟨?_, hbe8⟩
    simp [beq_swap other RT]

end Go.Proofs.YtdjaemobfbbkoaaDoor
