/- What this text proves: the walk of annalslaw26.awake over this program; how long an answer's bytes are. What this text proves: the walk of annalslaw26.TellAnswers over this program: it answers true of any bytes, any kind and any answer whose texts are of a bounded length. (By program: mktlaw.py.) What this text proves: an argument that is an answer, as the claim's reading has it, holds this in memory, and its texts are no longer than the reading's bulk. What this text proves: the statement TellAnswers: any answer as bytes of any kind, any bytes as one, or the error, come out as the document's, and the bytes that were handed in stay, where what it reads is of bulk at most 1048576. -/
import Derived.Test.YtldmbfemoepfkaaJW
import Derived.Test.YtldmbfemoepfkaaEqual
import Derived.Test.YtldmbfemoepfkaaJC
import Derived.Test.YtldmbfemoepfkaaJRK
import Derived.Test.YtldmbfemoepfkaaJRA
import Derived.Test.YtldmbfemoepfkaaTlSameT
import Derived.Test.YtldmbfemoepfkaaOpenB
import Derived.Test.YtldmbfemoepfkaaTlVoc
import Derived.Deep.Strs
import Derived.Lib.SmallJoins
namespace Go.Proofs.Ytldmbfemoepfkaa
open Go.RowKit

theorem wr83 : ([] : List UInt8) ++ wrA 3 { AA0 with code := 83 } = [1, 83] := by decide

set_option maxHeartbeats 1000000 in
theorem tlAwake_any (w : World) : Calls Try.prog 4 #[] w fun e w' => e = .returned (.bool true) ∧ Below w.heap.size w w' := by
  have hA := answer_any (.slice none 0 0) [] 3 { AA0 with code := 83 } (.slice none 0 0) (.slice none 0 0) (.slice none 0 0) w (HB.nil w) ⟨HB.nil w, IA.nil w, EA.nil w⟩ (Nat.zero_le _) (Nat.zero_le _) (by have := congrArg List.length wr83; rw [List.length_append] at this; rw [this]; decide)
  rw [wr83] at hA
  unfold ansC at hA
  go_enter Try.func4, Try.ntmps4
  go_wp2_with fail
  refine hA.mono ?_
  clear hA
  rintro e w1 ⟨p, c, rfl, hx, hb⟩
  have bL := (Below.refl w1.heap.size w1).alloc (Nat.le_refl _) (.cells #[.int .u8 1, .int .u8 83] 5)
  have hl := HB.lit w1 5 [1, 83] #[.int .u8 1, .int .u8 83] 2 rfl rfl (by unfold maxLen; omega)
  have hQ := equal_any _ _ _ _ _ (hx.later bL) hl
  have bF := hb.trans (bL.mono hb.size)
  clear hl hx hb bL
  go_wp2_with fail
  refine hQ.mono ?_
  clear hQ
  rintro e w2 ⟨rfl, rfl⟩
  go_wp2
  go_ret
  exact ⟨rfl, bF⟩

theorem bytesL_len (s : List UInt8) (h : s.length ≤ 1048576) : (bytesL s).length ≤ 1048600 := by unfold bytesL; rw [List.length_append, numL_length]; have := cnt_le8 s.length (by omega); omega
theorem wrIs_len (l : List It) (h : ∀ x ∈ l, x.id.length ≤ 1048576 ∧ x.key.length ≤ 1048576) : (wrIs l).length ≤ l.length * 3000000 := by
  induction l with
  | nil => simp [wrIs]
  | cons x r ih =>
    have h1 := ih fun y hy => h y (by simp [hy])
    have h2 := h x (by simp)
    have h3 := bytesL_len x.id h2.1
    have h4 := bytesL_len x.key h2.2
    have h5 := numL9 x.si
    simp only [wrIs, wrI, List.length_append, List.length_cons]
    omega
theorem wrVs_len (l : List Ev) (h : ∀ x ∈ l, x.id.length ≤ 1048576 ∧ x.key.length ≤ 1048576) : (wrVs l).length ≤ l.length * 3000000 := by
  induction l with
  | nil => simp [wrVs]
  | cons x r ih =>
    have h1 := ih fun y hy => h y (by simp [hy])
    have h2 := h x (by simp)
    have h3 := bytesL_len x.id h2.1
    have h4 := bytesL_len x.key h2.2
    have h5 := numL9 x.e
    have h6 := numL9 x.i
    simp only [wrVs, wrV, List.length_append, List.length_cons]
    omega
theorem wrS_len (a : AA) (h : a.key.length ≤ 1048576) : (wrS a).length ≤ 1100000 := by
  have h1 := bytesL_len a.key h
  have h2 := numL9 a.si
  have h3 := flagL1 a.pr
  unfold wrS
  split <;> simp only [List.length_append, List.length_nil] <;> omega
theorem wrA_len (k : Int) (a : AA) (hk : a.key.length ≤ 1048576) (hi : ∀ x ∈ a.its, x.id.length ≤ 1048576 ∧ x.key.length ≤ 1048576) (he : ∀ x ∈ a.evs, x.id.length ≤ 1048576 ∧ x.key.length ≤ 1048576) (ni : a.its.length ≤ 60) (ne : a.evs.length ≤ 60) : (wrA k a).length ≤ 1000000000 := by
  have h1 := wrIs_len a.its hi
  have h2 := wrVs_len a.evs he
  have h3 := wrS_len a hk
  have h4 := numL9 a.code
  have h5 := numL9 a.ep
  have h6 := numL9 a.si
  have h7 := numL9 (a.its.length : Int)
  have h8 := numL9 (a.evs.length : Int)
  have h9 := flagL1 a.mo
  have h10 := flagL1 a.sa
  unfold wrA
  rw [List.length_append]
  split
  · unfold wrK
    split; · omega
    split; · omega
    split; · rw [List.length_append]; omega
    split; · rw [List.length_append]; omega
    split; · rw [List.length_append, List.length_append]; omega
    split
    · rw [List.length_append, List.length_append, List.length_append]
      split <;> simp only [List.length_append, List.length_nil] <;> omega
    · simp only [List.length_nil]; omega
  · simp only [List.length_nil]; omega

end Go.Proofs.Ytldmbfemoepfkaa

namespace Go.Proofs.Ytldmbfemoepfkaa
open Go.RowKit

/-- What bytes are read as, nothing where they are none. -/
def rdZ (d : Int × List UInt8 × AA) : List UInt8 × AA := if d.1 = 0 then d.2 else ([], AA0)

theorem rd_plain {d : Int × List UInt8 × AA} {w w' : World} {x : Ending} (h : RdTold d w x w') :
    ∃ pk ck pi ci pe ce pr cr, x = .returned (.tuple #[.agg (ansC (rdZ d).2 (.slice pk (rdZ d).2.key.length ck) (.slice pi (rdZ d).2.its.length ci) (.slice pe (rdZ d).2.evs.length ce)), .slice pr (rdZ d).1.length cr, .int .i64 d.1]) ∧ AnsV w' (rdZ d).2 (.slice pk (rdZ d).2.key.length ck) (.slice pi (rdZ d).2.its.length ci) (.slice pe (rdZ d).2.evs.length ce) ∧ HB w' (.slice pr (rdZ d).1.length cr) (rdZ d).1 ∧ Below w.heap.size w w' := by
  obtain ⟨hb, h1, h2⟩ := h
  by_cases he : d.1 = 0
  · obtain ⟨kv, iv, ev, rv, rfl, ⟨g1, g2, g3⟩, g4⟩ := h1 he
    have e : rdZ d = d.2 := if_pos he
    rw [e, he]
    obtain ⟨pk, ck, rfl⟩ := g1.shape
    obtain ⟨pi, ci, rfl⟩ := g2.shape
    obtain ⟨pe, ce, rfl⟩ := g3.shape
    obtain ⟨pr, cr, rfl⟩ := g4.shape
    exact ⟨pk, ck, pi, ci, pe, ce, pr, cr, rfl, ⟨g1, g2, g3⟩, g4, hb⟩
  · obtain rfl := h2 he
    have e : rdZ d = ([], AA0) := if_neg he
    rw [e]
    exact ⟨none, 0, none, 0, none, 0, none, 0, rfl, ⟨HB.nil _, IA.nil _, EA.nil _⟩, HB.nil _, hb⟩

theorem AnsV.later {w w' : World} {a : AA} {k i e : Value} (h : AnsV w a k i e) (hb : Below w.heap.size w w') : AnsV w' a k i e := ⟨h.1.later hb, h.2.1.later hb, h.2.2.later hb⟩

set_option maxHeartbeats 8000000 in
theorem tellAnswers_walk (k : Int) (v : Value) (b : List UInt8) (a : AA) (kv iv ev : Value) (w : World) (hv : HB w v b) (ha : AnsV w a kv iv ev) (hsz : b.length ≤ 1048576) (hkb : a.key.length ≤ 1048576) (hib : ∀ x ∈ a.its, x.id.length ≤ 1048576 ∧ x.key.length ≤ 1048576) (heb : ∀ x ∈ a.evs, x.id.length ≤ 1048576 ∧ x.key.length ≤ 1048576) :
    Calls Try.prog 3 #[v, .int .i64 k, .agg (ansC a kv iv ev)] w fun e w' => e = .returned (.bool true) ∧ Below w.heap.size w w' := by
  obtain ⟨pv, cv, rfl⟩ := hv.shape
  obtain ⟨hk, hi, he⟩ := id ha
  obtain ⟨pk, ck, rfl⟩ := hk.shape
  obtain ⟨pi, ci, rfl⟩ := hi.shape
  obtain ⟨pe, ce, rfl⟩ := he.shape
  have hAw := fun W => tlAwake_any W
  have b1 := (Below.refl w.heap.size w).alloc (Nat.le_refl _) (.cells #[.int .i64 a.code, .int .i64 a.ep, .bool a.pr, .bool a.sa, .slice pk a.key.length ck, .int .i64 a.si, .slice pi a.its.length ci, .slice pe a.evs.length ce, .bool a.mo] 27)
  have a1 := CB.made 27 w #[.int .i64 a.code, .int .i64 a.ep, .bool a.pr, .bool a.sa, .slice pk a.key.length ck, .int .i64 a.si, .slice pi a.its.length ci, .slice pe a.evs.length ce, .bool a.mo]
  by_cases h60 : 60 < a.its.length ∨ 60 < a.evs.length
  · have hA1 := hAw (w.alloc (.cells #[.int .i64 a.code, .int .i64 a.ep, .bool a.pr, .bool a.sa, .slice pk a.key.length ck, .int .i64 a.si, .slice pi a.its.length ci, .slice pe a.evs.length ce, .bool a.mo] 27))
    clear hAw hkb hib heb ha hk hi he a1
    unfold ansC
    by_cases hi6 : 60 < a.its.length
    · have h6 : (60 : Int) < (a.its.length : Int) := by omega
      go_enter Try.func3, Try.ntmps3
      go_wp2_with fail
      go_at_call 4
      refine hA1.mono ?_
      rintro e w1 ⟨rfl, hb⟩
      have hF := b1.trans (hb.mono b1.size)
      clear hA1 b1 hb
      go_wp2
      go_ret
      exact ⟨rfl, hF⟩
    · have h6 : ¬ (60 : Int) < (a.its.length : Int) := by omega
      have h7 : (60 : Int) < (a.evs.length : Int) := by omega
      go_enter Try.func3, Try.ntmps3
      go_wp2_with fail
      go_at_call 4
      refine hA1.mono ?_
      rintro e w1 ⟨rfl, hb⟩
      have hF := b1.trans (hb.mono b1.size)
      clear hA1 b1 hb
      go_wp2
      go_ret
      exact ⟨rfl, hF⟩
  have ni : a.its.length ≤ 60 := by omega
  have ne : a.evs.length ≤ 60 := by omega
  have h6 : ¬ (60 : Int) < (a.its.length : Int) := by omega
  have h7 : ¬ (60 : Int) < (a.evs.length : Int) := by omega
  have hwl := wrA_len k a hkb hib heb ni ne
  obtain ⟨w1, hw1⟩ : ∃ x, x = w.alloc (.cells #[.int .i64 a.code, .int .i64 a.ep, .bool a.pr, .bool a.sa, .slice pk a.key.length ck, .int .i64 a.si, .slice pi a.its.length ci, .slice pe a.evs.length ce, .bool a.mo] 27) := ⟨_, rfl⟩
  rw [← hw1] at b1 a1
  have hC := clone_any _ b w1 (hv.later b1) (by omega)
  rw [hw1] at hC
  have HW := hid_of hw1
  clear hw1 hib heb h60
  have HV : Hid (AnsV w a (.slice pk a.key.length ck) (.slice pi a.its.length ci) (.slice pe a.evs.length ce)) := ha
  clear ha hk hi he
  unfold ansC
  go_enter Try.func3, Try.ntmps3
  go_wp2_with fail
  refine hC.mono ?_
  clear hC
  rintro x w2 ⟨pc, cc, rfl, hc2, hb2⟩
  rw [← HW.out] at hb2
  have a2 := a1.later hb2
  have b2 := b1.trans (hb2.mono b1.size)
  clear hb2 a1 b1 HW
  have hR := readA_any k (.slice pc b.length cc) b w2 hc2 (by omega)
  go_wp2_with fail
  refine hR.mono ?_
  clear hR
  rintro x w3 hx3
  obtain ⟨pk1, ck1, pi1, ci1, pe1, ce1, pr1, cr1, rfl, hV3, hr3, hb3⟩ := rd_plain hx3
  clear hx3
  have a3 := a2.later hb3
  have b3 := b2.trans (hb3.mono b2.size)
  have hc3 := hc2.later hb3
  clear a2 b2 hc2 hb3
  obtain ⟨z, hz⟩ : ∃ z, z = (rdZ (rdA k b)).2 := ⟨_, rfl⟩
  obtain ⟨rz, hrz⟩ : ∃ z, z = (rdZ (rdA k b)).1 := ⟨_, rfl⟩
  obtain ⟨DE, hDE⟩ : ∃ z, z = (rdA k b).1 := ⟨_, rfl⟩
  rw [← hz] at hV3
  rw [← hrz] at hr3
  rw [← hz, ← hrz, ← hDE]
  have HZ : Hid (z = (rdZ (rdA k b)).2 ∧ rz = (rdZ (rdA k b)).1 ∧ DE = (rdA k b).1) := ⟨hz, hrz, hDE⟩
  clear hz hrz hDE
  unfold ansC
  have bN := (Below.refl w3.heap.size w3).alloc (Nat.le_refl _) (.cells #[.int .i64 z.code, .int .i64 z.ep, .bool z.pr, .bool z.sa, .slice pk1 z.key.length ck1, .int .i64 z.si, .slice pi1 z.its.length ci1, .slice pe1 z.evs.length ce1, .bool z.mo] 27)
  have z3 := CB.made 27 w3 #[.int .i64 z.code, .int .i64 z.ep, .bool z.pr, .bool z.sa, .slice pk1 z.key.length ck1, .int .i64 z.si, .slice pi1 z.its.length ci1, .slice pe1 z.evs.length ce1, .bool z.mo]
  have a4 := a3.later bN
  have b4 := b3.trans (bN.mono b3.size)
  have hc4 := hc3.later bN
  have hV4 := hV3.later bN
  have hr4 := hr3.later bN
  clear a3 b3 hc3 hV3 hr3
  obtain ⟨w4, hw4⟩ : ∃ x, x = w3.alloc (.cells #[.int .i64 z.code, .int .i64 z.ep, .bool z.pr, .bool z.sa, .slice pk1 z.key.length ck1, .int .i64 z.si, .slice pi1 z.its.length ci1, .slice pe1 z.evs.length ce1, .bool z.mo] 27) := ⟨_, rfl⟩
  rw [← hw4] at bN z3 a4 b4 hc4 hV4 hr4
  have hR := rreadA_any k (.slice pv b.length cv) b w4 (hv.later b4) (by omega)
  rw [hw4] at hR
  have HW4 := hid_of hw4
  clear hw4 bN
  go_wp2_with fail
  refine hR.mono ?_
  clear hR
  rintro x w5 hx5
  rw [← HW4.out] at hx5
  obtain ⟨pk2, ck2, pi2, ci2, pe2, ce2, pr2, cr2, rfl, hV5, hr5, hb5⟩ := rd_plain hx5
  clear hx5
  rw [← HZ.out.1] at hV5
  rw [← HZ.out.2.1] at hr5
  rw [← HZ.out.1, ← HZ.out.2.1, ← HZ.out.2.2]
  unfold ansC
  have bO := (Below.refl w5.heap.size w5).alloc (Nat.le_refl _) (.cells #[.int .i64 z.code, .int .i64 z.ep, .bool z.pr, .bool z.sa, .slice pk2 z.key.length ck2, .int .i64 z.si, .slice pi2 z.its.length ci2, .slice pe2 z.evs.length ce2, .bool z.mo] 27)
  have q5 := CB.made 27 w5 #[.int .i64 z.code, .int .i64 z.ep, .bool z.pr, .bool z.sa, .slice pk2 z.key.length ck2, .int .i64 z.si, .slice pi2 z.its.length ci2, .slice pe2 z.evs.length ce2, .bool z.mo]
  have bQ := hb5.trans (bO.mono hb5.size)
  have a6 := a4.later bQ
  have z6 := z3.later bQ
  have b6 := b4.trans (bQ.mono b4.size)
  have hc6 := hc4.later bQ
  have hV6 := hV4.later bQ
  have hr6 := hr4.later bQ
  have hU6 := hV5.later bO
  have hs6 := hr5.later bO
  clear a4 z3 b4 hc4 hV4 hr4 hV5 hr5 hb5 bQ HZ HW4
  obtain ⟨w6, hw6⟩ : ∃ x, x = w5.alloc (.cells #[.int .i64 z.code, .int .i64 z.ep, .bool z.pr, .bool z.sa, .slice pk2 z.key.length ck2, .int .i64 z.si, .slice pi2 z.its.length ci2, .slice pe2 z.evs.length ce2, .bool z.mo] 27) := ⟨_, rfl⟩
  rw [← hw6] at bO q5 a6 z6 b6 hc6 hV6 hr6 hU6 hs6
  have HW6 := hid_of hw6
  have bD := Below.drew (Below.refl w6.heap.size w6)
  have bD6 := b6.trans (bD.mono b6.size)
  have keep : ∀ W, Below w6.heap.size w6 W → (W.cell? ⟨w.heap.size, 0, none⟩ = some (.int .i64 a.code) ∧ W.cell? ⟨w.heap.size, 1, none⟩ = some (.int .i64 a.ep) ∧ W.cell? ⟨w.heap.size, 2, none⟩ = some (.bool a.pr) ∧ W.cell? ⟨w.heap.size, 3, none⟩ = some (.bool a.sa) ∧ W.cell? ⟨w.heap.size, 4, none⟩ = some (.slice pk a.key.length ck) ∧ W.cell? ⟨w.heap.size, 5, none⟩ = some (.int .i64 a.si) ∧ W.cell? ⟨w.heap.size, 6, none⟩ = some (.slice pi a.its.length ci) ∧ W.cell? ⟨w.heap.size, 7, none⟩ = some (.slice pe a.evs.length ce) ∧ W.cell? ⟨w.heap.size, 8, none⟩ = some (.bool a.mo)) ∧ (W.cell? ⟨w3.heap.size, 0, none⟩ = some (.int .i64 z.code) ∧ W.cell? ⟨w3.heap.size, 1, none⟩ = some (.int .i64 z.ep) ∧ W.cell? ⟨w3.heap.size, 2, none⟩ = some (.bool z.pr) ∧ W.cell? ⟨w3.heap.size, 3, none⟩ = some (.bool z.sa) ∧ W.cell? ⟨w3.heap.size, 4, none⟩ = some (.slice pk1 z.key.length ck1) ∧ W.cell? ⟨w3.heap.size, 5, none⟩ = some (.int .i64 z.si) ∧ W.cell? ⟨w3.heap.size, 6, none⟩ = some (.slice pi1 z.its.length ci1) ∧ W.cell? ⟨w3.heap.size, 7, none⟩ = some (.slice pe1 z.evs.length ce1) ∧ W.cell? ⟨w3.heap.size, 8, none⟩ = some (.bool z.mo)) ∧ (W.cell? ⟨w5.heap.size, 0, none⟩ = some (.int .i64 z.code) ∧ W.cell? ⟨w5.heap.size, 1, none⟩ = some (.int .i64 z.ep) ∧ W.cell? ⟨w5.heap.size, 2, none⟩ = some (.bool z.pr) ∧ W.cell? ⟨w5.heap.size, 3, none⟩ = some (.bool z.sa) ∧ W.cell? ⟨w5.heap.size, 4, none⟩ = some (.slice pk2 z.key.length ck2) ∧ W.cell? ⟨w5.heap.size, 5, none⟩ = some (.int .i64 z.si) ∧ W.cell? ⟨w5.heap.size, 6, none⟩ = some (.slice pi2 z.its.length ci2) ∧ W.cell? ⟨w5.heap.size, 7, none⟩ = some (.slice pe2 z.evs.length ce2) ∧ W.cell? ⟨w5.heap.size, 8, none⟩ = some (.bool z.mo)) := by
    intro W hW
    have y1 := a6.later hW
    have y2 := z6.later hW
    have y3 := q5.later hW
    exact ⟨⟨y1.cell rfl, y1.cell rfl, y1.cell rfl, y1.cell rfl, y1.cell rfl, y1.cell rfl, y1.cell rfl, y1.cell rfl, y1.cell rfl⟩, ⟨y2.cell rfl, y2.cell rfl, y2.cell rfl, y2.cell rfl, y2.cell rfl, y2.cell rfl, y2.cell rfl, y2.cell rfl, y2.cell rfl⟩, ⟨y3.cell rfl, y3.cell rfl, y3.cell rfl, y3.cell rfl, y3.cell rfl, y3.cell rfl, y3.cell rfl, y3.cell rfl, y3.cell rfl⟩⟩
  have hS := keep w6 (Below.refl _ _)
  have hSd : (w6.drew.cell? ⟨w.heap.size, 0, none⟩ = some (.int .i64 a.code) ∧ w6.drew.cell? ⟨w.heap.size, 1, none⟩ = some (.int .i64 a.ep) ∧ w6.drew.cell? ⟨w.heap.size, 2, none⟩ = some (.bool a.pr) ∧ w6.drew.cell? ⟨w.heap.size, 3, none⟩ = some (.bool a.sa) ∧ w6.drew.cell? ⟨w.heap.size, 4, none⟩ = some (.slice pk a.key.length ck) ∧ w6.drew.cell? ⟨w.heap.size, 5, none⟩ = some (.int .i64 a.si) ∧ w6.drew.cell? ⟨w.heap.size, 6, none⟩ = some (.slice pi a.its.length ci) ∧ w6.drew.cell? ⟨w.heap.size, 7, none⟩ = some (.slice pe a.evs.length ce) ∧ w6.drew.cell? ⟨w.heap.size, 8, none⟩ = some (.bool a.mo)) ∧ (w6.drew.cell? ⟨w3.heap.size, 0, none⟩ = some (.int .i64 z.code) ∧ w6.drew.cell? ⟨w3.heap.size, 1, none⟩ = some (.int .i64 z.ep) ∧ w6.drew.cell? ⟨w3.heap.size, 2, none⟩ = some (.bool z.pr) ∧ w6.drew.cell? ⟨w3.heap.size, 3, none⟩ = some (.bool z.sa) ∧ w6.drew.cell? ⟨w3.heap.size, 4, none⟩ = some (.slice pk1 z.key.length ck1) ∧ w6.drew.cell? ⟨w3.heap.size, 5, none⟩ = some (.int .i64 z.si) ∧ w6.drew.cell? ⟨w3.heap.size, 6, none⟩ = some (.slice pi1 z.its.length ci1) ∧ w6.drew.cell? ⟨w3.heap.size, 7, none⟩ = some (.slice pe1 z.evs.length ce1) ∧ w6.drew.cell? ⟨w3.heap.size, 8, none⟩ = some (.bool z.mo)) ∧ (w6.drew.cell? ⟨w5.heap.size, 0, none⟩ = some (.int .i64 z.code) ∧ w6.drew.cell? ⟨w5.heap.size, 1, none⟩ = some (.int .i64 z.ep) ∧ w6.drew.cell? ⟨w5.heap.size, 2, none⟩ = some (.bool z.pr) ∧ w6.drew.cell? ⟨w5.heap.size, 3, none⟩ = some (.bool z.sa) ∧ w6.drew.cell? ⟨w5.heap.size, 4, none⟩ = some (.slice pk2 z.key.length ck2) ∧ w6.drew.cell? ⟨w5.heap.size, 5, none⟩ = some (.int .i64 z.si) ∧ w6.drew.cell? ⟨w5.heap.size, 6, none⟩ = some (.slice pi2 z.its.length ci2) ∧ w6.drew.cell? ⟨w5.heap.size, 7, none⟩ = some (.slice pe2 z.evs.length ce2) ∧ w6.drew.cell? ⟨w5.heap.size, 8, none⟩ = some (.bool z.mo)) := keep w6.drew bD
  have hXA := answer_any (.slice pc b.length cc) b k a (.slice pk a.key.length ck) (.slice pi a.its.length ci) (.slice pe a.evs.length ce) w6.drew (hc6.later bD) (HV.out.later bD6) (by omega) (by omega) (by omega)
  unfold ansC at hXA
  have hDE2 : (DE == DE) = true := by simp
  rw [hw6] at hS hSd hXA
  clear hw6 z6 a6 q5 bO
  obtain ⟨LA, hLA⟩ : ∃ L, L = b ++ wrA k a := ⟨_, rfl⟩
  rw [← hLA] at hXA
  have hll : LA.length ≤ 1100000000 := by rw [hLA, List.length_append]; omega
  have HLA := hid_of hLA
  clear hLA
  go_wp2
  go_region_held3 (fun W => (W.cell? ⟨w.heap.size, 0, none⟩ = some (.int .i64 a.code) ∧ W.cell? ⟨w.heap.size, 1, none⟩ = some (.int .i64 a.ep) ∧ W.cell? ⟨w.heap.size, 2, none⟩ = some (.bool a.pr) ∧ W.cell? ⟨w.heap.size, 3, none⟩ = some (.bool a.sa) ∧ W.cell? ⟨w.heap.size, 4, none⟩ = some (.slice pk a.key.length ck) ∧ W.cell? ⟨w.heap.size, 5, none⟩ = some (.int .i64 a.si) ∧ W.cell? ⟨w.heap.size, 6, none⟩ = some (.slice pi a.its.length ci) ∧ W.cell? ⟨w.heap.size, 7, none⟩ = some (.slice pe a.evs.length ce) ∧ W.cell? ⟨w.heap.size, 8, none⟩ = some (.bool a.mo)) ∧ (W.cell? ⟨w3.heap.size, 0, none⟩ = some (.int .i64 z.code) ∧ W.cell? ⟨w3.heap.size, 1, none⟩ = some (.int .i64 z.ep) ∧ W.cell? ⟨w3.heap.size, 2, none⟩ = some (.bool z.pr) ∧ W.cell? ⟨w3.heap.size, 3, none⟩ = some (.bool z.sa) ∧ W.cell? ⟨w3.heap.size, 4, none⟩ = some (.slice pk1 z.key.length ck1) ∧ W.cell? ⟨w3.heap.size, 5, none⟩ = some (.int .i64 z.si) ∧ W.cell? ⟨w3.heap.size, 6, none⟩ = some (.slice pi1 z.its.length ci1) ∧ W.cell? ⟨w3.heap.size, 7, none⟩ = some (.slice pe1 z.evs.length ce1) ∧ W.cell? ⟨w3.heap.size, 8, none⟩ = some (.bool z.mo)) ∧ (W.cell? ⟨w5.heap.size, 0, none⟩ = some (.int .i64 z.code) ∧ W.cell? ⟨w5.heap.size, 1, none⟩ = some (.int .i64 z.ep) ∧ W.cell? ⟨w5.heap.size, 2, none⟩ = some (.bool z.pr) ∧ W.cell? ⟨w5.heap.size, 3, none⟩ = some (.bool z.sa) ∧ W.cell? ⟨w5.heap.size, 4, none⟩ = some (.slice pk2 z.key.length ck2) ∧ W.cell? ⟨w5.heap.size, 5, none⟩ = some (.int .i64 z.si) ∧ W.cell? ⟨w5.heap.size, 6, none⟩ = some (.slice pi2 z.its.length ci2) ∧ W.cell? ⟨w5.heap.size, 7, none⟩ = some (.slice pe2 z.evs.length ce2) ∧ W.cell? ⟨w5.heap.size, 8, none⟩ = some (.bool z.mo))) (first | with_reducible exact hS | with_reducible exact hSd | with_reducible exact hS7 | with_reducible exact hS8 | with_reducible exact hS9 | with_reducible exact hS10 | with_reducible exact hS13) (first
    | (go_at_call 9; refine hXA.mono ?_; rintro e w7 ⟨p7, c7, rfl, hx7, hb7⟩; rw [← HW6.out] at hb7; have bE7 := bD.trans (hb7.mono bD.size); have hS7 := keep w7 bE7; have b7 := b6.trans (bE7.mono b6.size); have hYA := ranswer_any (.slice pv b.length cv) b k a (.slice pk a.key.length ck) (.slice pi a.its.length ci) (.slice pe a.evs.length ce) w7 (hv.later b7) (HV.out.later b7) (by omega) (by omega) (by omega) (by omega) (by omega); unfold ansC at hYA)
    | (go_at_call 10; refine hYA.mono ?_; rintro e w8 ⟨L8, p8, c8, rfl, hx8, hL8, hb8⟩; have bE8 := bE7.trans (hb8.mono bE7.size); have hS8 := keep w8 bE8; have b8 := b6.trans (bE8.mono b6.size); have hE1 := equal_t _ _ LA L8 w8 (hx7.later hb8) hx8 (by rw [hL8.out, HLA.out]))
    | (go_at_call_of 8 (Value.slice p8 L8.length c8); refine hE1.mono ?_; rintro e w9 ⟨rfl, rfl⟩; have hS9 := hS8; have hSm := sameA_true z (.slice pk1 z.key.length ck1) (.slice pi1 z.its.length ci1) (.slice pe1 z.evs.length ce1) (.slice pk2 z.key.length ck2) (.slice pi2 z.its.length ci2) (.slice pe2 z.evs.length ce2) w9 (hV6.later bE8) (hU6.later bE8); unfold ansC at hSm)
    | (go_at_call 11; refine hSm.mono ?_; rintro e w10 ⟨rfl, hb10⟩; have bE10 := bE8.trans (hb10.mono bE8.size); have hS10 := keep w10 bE10; have b10 := b6.trans (bE10.mono b6.size); have hE2 := equal_t _ _ rz rz w10 (hr6.later bE10) (hs6.later bE10) rfl; have hE3 := equal_t _ _ b b w10 (hc6.later bE10) (hv.later b10) rfl; have hA9 := hAw w10)
    | (go_at_call_of 8 (Value.slice pr1 rz.length cr1); refine hE2.mono ?_; rintro e w11 ⟨rfl, rfl⟩)
    | (go_at_call_of 8 (Value.slice pc b.length cc); refine hE3.mono ?_; rintro e w12 ⟨rfl, rfl⟩)
    | (go_at_call 4; refine hA9.mono ?_; rintro e w13 ⟨rfl, hb13⟩; have bE13 := bE10.trans (hb13.mono bE10.size); have hS13 := keep w13 bE13))
  have bF := b6.trans (bE13.mono b6.size)
  clear hS hSd hS7 hS8 hS9 hS10 hS13 keep
  go_wp2
  go_ret
  exact ⟨rfl, bF⟩

end Go.Proofs.Ytldmbfemoepfkaa

namespace Go.Proofs.Ytldmbfemoepfkaa
open Go.ChangeShapes Go.WideShapes Go.ChangeAt Go.RowKit

section
variable {H : Type} {enc : TypeId × Value → H} {P : Program} {w : World} {base : Nat} {spare : Nat → Bool} {held : Bool}

theorem array9 {α : Type} {cs : Array α} (h : cs.size = 9) : ∃ c0 c1 c2 c3 c4 c5 c6 c7 c8, cs = #[c0, c1, c2, c3, c4, c5, c6, c7, c8] := by
  obtain ⟨l⟩ := cs
  match l, h with
  | [c0, c1, c2, c3, c4, c5, c6, c7, c8], _ => exact ⟨c0, c1, c2, c3, c4, c5, c6, c7, c8, rfl⟩

/-- Three cells of a struct of three fields of one cell each, opened. -/
theorem open_list3 {t : TypeId} {f0 f1 f2 : Field} {cs : List Value} {y : DataW H × List MemPlace} {fuel : Nat} (hs : P.underlying t = some (.struct #[f0, f1, f2])) (hone : Go.Deep.oneCellFields P #[f0, f1, f2] = true) (hl : cs.length = 3)
    (hf : DataW.trod enc P w base spare held fuel t cs = some y) :
    ∃ (c0 c1 c2 : Value) (y0 y1 y2 : DataW H × List MemPlace) (n : Nat), cs = [c0, c1, c2] ∧ DataW.trod enc P w base spare held n f0.type [c0] = some y0 ∧ DataW.trod enc P w base spare held n f1.type [c1] = some y1 ∧ DataW.trod enc P w base spare held n f2.type [c2] = some y2 ∧ y.1 = .agg [y0.1, y1.1, y2.1] := by
  match cs, hl with
  | [c0, c1, c2], _ =>
    obtain ⟨xs, n, _, hy, _, hlen, hg⟩ := DataW.trod_struct hs hf
    obtain ⟨o0, k0⟩ := Go.Deep.hone_of hone 0 f0 rfl
    obtain ⟨o1, k1⟩ := Go.Deep.hone_of hone 1 f1 rfl
    obtain ⟨o2, k2⟩ := Go.Deep.hone_of hone 2 f2 rfl
    match xs, hlen with
    | [y0, y1, y2], _ =>
      have g0 := hg 0 f0 rfl
      have g1 := hg 1 f1 rfl
      have g2 := hg 2 f2 rfl
      exact ⟨c0, c1, c2, y0, y1, y2, n, rfl, by simpa [Value.cells, o0, k0] using g0, by simpa [Value.cells, o1, k1] using g1, by simpa [Value.cells, o2, k2] using g2, by rw [hy]; rfl⟩

/-- Four cells of a struct of four fields of one cell each, opened. -/
theorem open_list4 {t : TypeId} {f0 f1 f2 f3 : Field} {cs : List Value} {y : DataW H × List MemPlace} {fuel : Nat} (hs : P.underlying t = some (.struct #[f0, f1, f2, f3])) (hone : Go.Deep.oneCellFields P #[f0, f1, f2, f3] = true) (hl : cs.length = 4)
    (hf : DataW.trod enc P w base spare held fuel t cs = some y) :
    ∃ (c0 c1 c2 c3 : Value) (y0 y1 y2 y3 : DataW H × List MemPlace) (n : Nat), cs = [c0, c1, c2, c3] ∧ DataW.trod enc P w base spare held n f0.type [c0] = some y0 ∧ DataW.trod enc P w base spare held n f1.type [c1] = some y1 ∧ DataW.trod enc P w base spare held n f2.type [c2] = some y2 ∧ DataW.trod enc P w base spare held n f3.type [c3] = some y3 ∧ y.1 = .agg [y0.1, y1.1, y2.1, y3.1] := by
  match cs, hl with
  | [c0, c1, c2, c3], _ =>
    obtain ⟨xs, n, _, hy, _, hlen, hg⟩ := DataW.trod_struct hs hf
    obtain ⟨o0, k0⟩ := Go.Deep.hone_of hone 0 f0 rfl
    obtain ⟨o1, k1⟩ := Go.Deep.hone_of hone 1 f1 rfl
    obtain ⟨o2, k2⟩ := Go.Deep.hone_of hone 2 f2 rfl
    obtain ⟨o3, k3⟩ := Go.Deep.hone_of hone 3 f3 rfl
    match xs, hlen with
    | [y0, y1, y2, y3], _ =>
      have g0 := hg 0 f0 rfl
      have g1 := hg 1 f1 rfl
      have g2 := hg 2 f2 rfl
      have g3 := hg 3 f3 rfl
      exact ⟨c0, c1, c2, c3, y0, y1, y2, y3, n, rfl, by simpa [Value.cells, o0, k0] using g0, by simpa [Value.cells, o1, k1] using g1, by simpa [Value.cells, o2, k2] using g2, by simpa [Value.cells, o3, k3] using g3, by rw [hy]; rfl⟩

/-- A struct of nine fields of one cell each, opened. -/
theorem open_agg9 {r : Reach} {b0 : Nat} {t : TypeId} {f0 f1 f2 f3 f4 f5 f6 f7 f8 : Field} {v : Value} {d : DataW H} {p : List MemPlace} (hs : P.underlying t = some (.struct #[f0, f1, f2, f3, f4, f5, f6, f7, f8])) (hone : Go.Deep.oneCellFields P #[f0, f1, f2, f3, f4, f5, f6, f7, f8] = true) (hC : P.cellsOf t = 9)
    (hv : Value.okWide P w r b0 t v) (h : DataW.Trod enc P w base spare held t v d p) :
    ∃ (c0 c1 c2 c3 c4 c5 c6 c7 c8 : Value) (y0 y1 y2 y3 y4 y5 y6 y7 y8 : DataW H × List MemPlace) (n : Nat), v = .agg #[c0, c1, c2, c3, c4, c5, c6, c7, c8] ∧ DataW.trod enc P w base spare held n f0.type [c0] = some y0 ∧ DataW.trod enc P w base spare held n f1.type [c1] = some y1 ∧ DataW.trod enc P w base spare held n f2.type [c2] = some y2 ∧ DataW.trod enc P w base spare held n f3.type [c3] = some y3 ∧ DataW.trod enc P w base spare held n f4.type [c4] = some y4 ∧ DataW.trod enc P w base spare held n f5.type [c5] = some y5 ∧ DataW.trod enc P w base spare held n f6.type [c6] = some y6 ∧ DataW.trod enc P w base spare held n f7.type [c7] = some y7 ∧ DataW.trod enc P w base spare held n f8.type [c8] = some y8 ∧ d = .agg [y0.1, y1.1, y2.1, y3.1, y4.1, y5.1, y6.1, y7.1, y8.1] := by
  obtain ⟨cs, rfl, hsz⟩ := okWide_struct hs hv
  obtain ⟨c0, c1, c2, c3, c4, c5, c6, c7, c8, rfl⟩ := array9 (hsz.trans hC)
  obtain ⟨fuel, hf⟩ := h
  obtain ⟨xs, n, _, hy, _, hlen, hg⟩ := DataW.trod_struct hs hf
  obtain ⟨o0, k0⟩ := Go.Deep.hone_of hone 0 f0 rfl
  obtain ⟨o1, k1⟩ := Go.Deep.hone_of hone 1 f1 rfl
  obtain ⟨o2, k2⟩ := Go.Deep.hone_of hone 2 f2 rfl
  obtain ⟨o3, k3⟩ := Go.Deep.hone_of hone 3 f3 rfl
  obtain ⟨o4, k4⟩ := Go.Deep.hone_of hone 4 f4 rfl
  obtain ⟨o5, k5⟩ := Go.Deep.hone_of hone 5 f5 rfl
  obtain ⟨o6, k6⟩ := Go.Deep.hone_of hone 6 f6 rfl
  obtain ⟨o7, k7⟩ := Go.Deep.hone_of hone 7 f7 rfl
  obtain ⟨o8, k8⟩ := Go.Deep.hone_of hone 8 f8 rfl
  match xs, hlen with
  | [y0, y1, y2, y3, y4, y5, y6, y7, y8], _ =>
    have g0 := hg 0 f0 rfl
    have g1 := hg 1 f1 rfl
    have g2 := hg 2 f2 rfl
    have g3 := hg 3 f3 rfl
    have g4 := hg 4 f4 rfl
    have g5 := hg 5 f5 rfl
    have g6 := hg 6 f6 rfl
    have g7 := hg 7 f7 rfl
    have g8 := hg 8 f8 rfl
    exact ⟨c0, c1, c2, c3, c4, c5, c6, c7, c8, y0, y1, y2, y3, y4, y5, y6, y7, y8, n, rfl, by simpa [Value.cells, o0, k0] using g0, by simpa [Value.cells, o1, k1] using g1, by simpa [Value.cells, o2, k2] using g2, by simpa [Value.cells, o3, k3] using g3, by simpa [Value.cells, o4, k4] using g4, by simpa [Value.cells, o5, k5] using g5, by simpa [Value.cells, o6, k6] using g6, by simpa [Value.cells, o7, k7] using g7, by simpa [Value.cells, o8, k8] using g8, congrArg Prod.fst hy⟩
end

set_option maxRecDepth 100000 in
theorem open_bytesB {H : Type} {enc : TypeId × Value → H} {W : World} {v0 : Value} {y : DataW H × List MemPlace} {fuel : Nat}
    (hf : DataW.trod enc Try.prog W 0 (fun _ => true) true fuel 22 [v0] = some y) : ∃ l : List UInt8, HB W v0 l ∧ (l = [] ∨ ∃ elems spare, y.1 = .slice elems spare ∧ elems.length = l.length) := by
  rcases open_ints Try.underlying22 Try.underlying5 (by kernel_rfl) hf with ⟨hcs, _⟩ | ⟨x, l, c, zs, hcs, hy, hl, hm, hz, hx, hcell, hwz⟩
  · simp only [List.cons.injEq, and_true] at hcs
    subst hcs
    exact ⟨[], HB.nil W, .inl rfl⟩
  · simp only [List.cons.injEq, and_true] at hcs
    subst hcs
    have hzc : zs.length = c := by simpa using hz
    subst hx
    exact ⟨bytesOf (zs.take l), hb_cells hl hm hzc hcell hwz, .inr ⟨_, _, rfl, by simp [lits, bytesOf]⟩⟩

theorem bulk_allT {H : Type} : ∀ elems : List (DataW H), elems.length ≤ Rows.uptoBulkAll elems
  | [] => by simp
  | d :: r => by
    have := bulk_allT r
    have h1 : 1 ≤ Rows.uptoBulk d := by unfold Rows.uptoBulk; split <;> omega
    simp only [Rows.uptoBulkAll, List.length_cons]
    omega
theorem bulk_mem {H : Type} {d : DataW H} : ∀ {elems : List (DataW H)}, d ∈ elems → Rows.uptoBulk d ≤ Rows.uptoBulkAll elems
  | [], h => by cases h
  | e :: r, h => by
    simp only [Rows.uptoBulkAll]
    rcases List.mem_cons.1 h with rfl | h
    · omega
    · have := bulk_mem h
      omega

set_option maxRecDepth 100000 in
theorem open_bytesU {H : Type} {enc : TypeId × Value → H} {W : World} {v0 : Value} {y : DataW H × List MemPlace} {fuel : Nat}
    (hf : DataW.trod enc Try.prog W 0 (fun _ => true) true fuel 22 [v0] = some y) : ∃ l : List UInt8, HB W v0 l ∧ l.length ≤ Rows.uptoBulk y.1 := by
  obtain ⟨l, hl, he⟩ := open_bytesB hf
  refine ⟨l, hl, ?_⟩
  rcases he with rfl | ⟨elems, spare, e, hn⟩
  · simp
  · have := bulk_allT elems
    rw [e]
    simp only [Rows.uptoBulk]
    omega

set_option maxRecDepth 100000 in
theorem open_item3 {H : Type} {enc : TypeId × Value → H} {W : World} {cs : List Value} {y : DataW H × List MemPlace} {fuel : Nat} (hlen : cs.length = 3)
    (hf : DataW.trod enc Try.prog W 0 (fun _ => true) true fuel 58 cs = some y) : ∃ (x : It) (u t : Value), cs = [u, t, .int .i64 x.si] ∧ HB W u x.id ∧ HB W t x.key ∧ x.id.length ≤ Rows.uptoBulk y.1 ∧ x.key.length ≤ Rows.uptoBulk y.1 := by
  obtain ⟨c0, c1, c2, y0, y1, y2, n, rfl, t0, t1, t2, hy⟩ := open_list3 Try.underlying58 (by kernel_rfl) hlen hf
  obtain ⟨l, h0, b0⟩ := open_bytesU t0
  obtain ⟨k, h1, b1⟩ := open_bytesU t1
  obtain ⟨a2, e2, _, _⟩ := DataW.trod_int Try.underlying3 t2
  obtain rfl : c2 = .int .i64 a2 := by simpa using e2
  refine ⟨⟨l, k, a2⟩, c0, c1, rfl, h0, h1, ?_, ?_⟩
  · rw [hy]; simp only [Rows.uptoBulk, Rows.uptoBulkAll]; show l.length ≤ _; omega
  · rw [hy]; simp only [Rows.uptoBulk, Rows.uptoBulkAll]; show k.length ≤ _; omega
set_option maxRecDepth 100000 in
theorem open_event4 {H : Type} {enc : TypeId × Value → H} {W : World} {cs : List Value} {y : DataW H × List MemPlace} {fuel : Nat} (hlen : cs.length = 4)
    (hf : DataW.trod enc Try.prog W 0 (fun _ => true) true fuel 61 cs = some y) : ∃ (x : Ev) (u t : Value), cs = [.int .i64 x.e, .int .i64 x.i, u, t] ∧ HB W u x.id ∧ HB W t x.key ∧ x.id.length ≤ Rows.uptoBulk y.1 ∧ x.key.length ≤ Rows.uptoBulk y.1 := by
  obtain ⟨c0, c1, c2, c3, y0, y1, y2, y3, n, rfl, t0, t1, t2, t3, hy⟩ := open_list4 Try.underlying61 (by kernel_rfl) hlen hf
  obtain ⟨a0, e0, _, _⟩ := DataW.trod_int Try.underlying3 t0
  obtain ⟨a1, e1, _, _⟩ := DataW.trod_int Try.underlying3 t1
  obtain ⟨l, h2, b2⟩ := open_bytesU t2
  obtain ⟨k, h3, b3⟩ := open_bytesU t3
  obtain rfl : c0 = .int .i64 a0 := by simpa using e0
  obtain rfl : c1 = .int .i64 a1 := by simpa using e1
  refine ⟨⟨a0, a1, l, k⟩, c2, c3, rfl, h2, h3, ?_, ?_⟩
  · rw [hy]; simp only [Rows.uptoBulk, Rows.uptoBulkAll]; show l.length ≤ _; omega
  · rw [hy]; simp only [Rows.uptoBulk, Rows.uptoBulkAll]; show k.length ≤ _; omega

set_option maxRecDepth 100000 in
theorem open_itemsU {H : Type} {enc : TypeId × Value → H} {W : World} {c : Value} {y : DataW H × List MemPlace} {fuel : Nat}
    (hf : DataW.trod enc Try.prog W 0 (fun _ => true) true fuel 24 [c] = some y) :
    ∃ l : List It, IA W c l ∧ ∀ x ∈ l, x.id.length ≤ Rows.uptoBulk y.1 ∧ x.key.length ≤ Rows.uptoBulk y.1 := by
  haveI : Inhabited It := ⟨⟨[], [], 0⟩⟩
  rcases Go.Deep.open_slice Try.underlying24 hf with ⟨hcs, _⟩ | ⟨a, len0, cap, m, n, D, Pl, hcs, _, hl, hm, hmm, hy, hx⟩
  · simp only [List.cons.injEq, and_true] at hcs
    subst hcs
    exact ⟨[], ⟨none, 0, rfl, Nat.le_refl _, Nat.zero_le _, fun h => absurd rfl h⟩, fun x h => by cases h⟩
  · simp only [List.cons.injEq, and_true] at hcs
    subst hcs
    simp only [if_true] at hmm
    subst hmm
    have ce : Try.prog.cellsOf 58 = 3 := by kernel_rfl
    rw [ce] at hx
    have each : ∀ i, i < m → ∃ q : It, ∃ (u t : Value), (W.cell? (a.add (i * 3)) = some u ∧ W.cell? (a.add (i * 3 + 1)) = some t ∧ W.cell? (a.add (i * 3 + 2)) = some (.int .i64 q.si)) ∧ HB W u q.id ∧ HB W t q.key ∧ q.id.length ≤ Rows.uptoBulk (D i) ∧ q.key.length ≤ Rows.uptoBulk (D i) := by
      intro i hi
      obtain ⟨cs', h1, h2⟩ := hx i hi
      obtain ⟨_, hlen, hcell⟩ := World.cells?_some h1
      obtain ⟨r, u, t, rfl, q1, q2, q3, q4⟩ := open_item3 hlen h2
      have e0 := hcell 0 (by omega)
      have e1 := hcell 1 (by omega)
      have e2 := hcell 2 (by omega)
      rw [Go.Deep.add_add] at e0 e1 e2
      exact ⟨r, u, t, ⟨by simpa using e0, by simpa using e1, by simpa using e2⟩, q1, q2, q3, q4⟩
    obtain ⟨q, hq⟩ := Go.Deep.choose_lt each
    refine ⟨(List.range len0).map q, ⟨some a, m, by simp, by simpa using hl, hm, fun hne => ?_⟩, fun x hxm => ?_⟩
    rotate_left
    · obtain ⟨i, hi, rfl⟩ := List.mem_map.1 hxm
      have hi := List.mem_range.1 hi
      obtain ⟨_, _, _, _, _, b1, b2⟩ := hq i (by omega)
      have hb : Rows.uptoBulk (D i) ≤ Rows.uptoBulk y.1 := by
        rw [hy]
        simp only [Rows.uptoBulk]
        have := bulk_mem (d := D i) (elems := (List.range len0).map D) (List.mem_map.2 ⟨i, List.mem_range.2 hi, rfl⟩)
        omega
      omega
    have hlen : 0 < len0 := by
      rcases Nat.eq_zero_or_pos len0 with h | h
      · subst h
        exact absurd rfl hne
      · exact h
    obtain ⟨_, _, ⟨hc0, _⟩, _⟩ := hq 0 (by omega)
    obtain ⟨b, o, spot⟩ := a
    have hs : spot = none := by simpa [Addr.add] using World.cell?_spot hc0
    subst hs
    refine ⟨b, o, by simp, fun i x hxi => ?_⟩
    have hi : i < len0 := by
      have := (List.getElem?_eq_some_iff.1 hxi).1
      simpa using this
    rw [List.getElem?_map, List.getElem?_range hi] at hxi
    simp only [Option.map_some, Option.some.injEq] at hxi
    subst hxi
    obtain ⟨u, t, ⟨c0, c1, c2⟩, h1, h2, _⟩ := hq i (by omega)
    rw [add_lit] at c0 c1 c2
    obtain ⟨p1, k1, rfl⟩ := h1.shape
    obtain ⟨p2, k2, rfl⟩ := h2.shape
    exact ⟨p1, k1, p2, k2, ⟨c0, by rw [Nat.add_assoc]; exact c1, by rw [Nat.add_assoc]; exact c2⟩, h1, h2⟩

set_option maxRecDepth 100000 in
theorem open_eventsU {H : Type} {enc : TypeId × Value → H} {W : World} {c : Value} {y : DataW H × List MemPlace} {fuel : Nat}
    (hf : DataW.trod enc Try.prog W 0 (fun _ => true) true fuel 25 [c] = some y) :
    ∃ l : List Ev, EA W c l ∧ ∀ x ∈ l, x.id.length ≤ Rows.uptoBulk y.1 ∧ x.key.length ≤ Rows.uptoBulk y.1 := by
  haveI : Inhabited Ev := ⟨⟨0, 0, [], []⟩⟩
  rcases Go.Deep.open_slice Try.underlying25 hf with ⟨hcs, _⟩ | ⟨a, len0, cap, m, n, D, Pl, hcs, _, hl, hm, hmm, hy, hx⟩
  · simp only [List.cons.injEq, and_true] at hcs
    subst hcs
    exact ⟨[], ⟨none, 0, rfl, Nat.le_refl _, Nat.zero_le _, fun h => absurd rfl h⟩, fun x h => by cases h⟩
  · simp only [List.cons.injEq, and_true] at hcs
    subst hcs
    simp only [if_true] at hmm
    subst hmm
    have ce : Try.prog.cellsOf 61 = 4 := by kernel_rfl
    rw [ce] at hx
    have each : ∀ i, i < m → ∃ q : Ev, ∃ (u t : Value), (W.cell? (a.add (i * 4)) = some (.int .i64 q.e) ∧ W.cell? (a.add (i * 4 + 1)) = some (.int .i64 q.i) ∧ W.cell? (a.add (i * 4 + 2)) = some u ∧ W.cell? (a.add (i * 4 + 3)) = some t) ∧ HB W u q.id ∧ HB W t q.key ∧ q.id.length ≤ Rows.uptoBulk (D i) ∧ q.key.length ≤ Rows.uptoBulk (D i) := by
      intro i hi
      obtain ⟨cs', h1, h2⟩ := hx i hi
      obtain ⟨_, hlen, hcell⟩ := World.cells?_some h1
      obtain ⟨r, u, t, rfl, q1, q2, q3, q4⟩ := open_event4 hlen h2
      have e0 := hcell 0 (by omega)
      have e1 := hcell 1 (by omega)
      have e2 := hcell 2 (by omega)
      have e3 := hcell 3 (by omega)
      rw [Go.Deep.add_add] at e0 e1 e2 e3
      exact ⟨r, u, t, ⟨by simpa using e0, by simpa using e1, by simpa using e2, by simpa using e3⟩, q1, q2, q3, q4⟩
    obtain ⟨q, hq⟩ := Go.Deep.choose_lt each
    refine ⟨(List.range len0).map q, ⟨some a, m, by simp, by simpa using hl, hm, fun hne => ?_⟩, fun x hxm => ?_⟩
    rotate_left
    · obtain ⟨i, hi, rfl⟩ := List.mem_map.1 hxm
      have hi := List.mem_range.1 hi
      obtain ⟨_, _, _, _, _, b1, b2⟩ := hq i (by omega)
      have hb : Rows.uptoBulk (D i) ≤ Rows.uptoBulk y.1 := by
        rw [hy]
        simp only [Rows.uptoBulk]
        have := bulk_mem (d := D i) (elems := (List.range len0).map D) (List.mem_map.2 ⟨i, List.mem_range.2 hi, rfl⟩)
        omega
      omega
    have hlen : 0 < len0 := by
      rcases Nat.eq_zero_or_pos len0 with h | h
      · subst h
        exact absurd rfl hne
      · exact h
    obtain ⟨_, _, ⟨hc0, _⟩, _⟩ := hq 0 (by omega)
    obtain ⟨b, o, spot⟩ := a
    have hs : spot = none := by simpa [Addr.add] using World.cell?_spot hc0
    subst hs
    refine ⟨b, o, by simp, fun i x hxi => ?_⟩
    have hi : i < len0 := by
      have := (List.getElem?_eq_some_iff.1 hxi).1
      simpa using this
    rw [List.getElem?_map, List.getElem?_range hi] at hxi
    simp only [Option.map_some, Option.some.injEq] at hxi
    subst hxi
    obtain ⟨u, t, ⟨c0, c1, c2, c3⟩, h1, h2, _⟩ := hq i (by omega)
    rw [add_lit] at c0 c1 c2 c3
    obtain ⟨p1, k1, rfl⟩ := h1.shape
    obtain ⟨p2, k2, rfl⟩ := h2.shape
    exact ⟨p1, k1, p2, k2, ⟨c0, by rw [Nat.add_assoc]; exact c1, by rw [Nat.add_assoc]; exact c2, by rw [Nat.add_assoc]; exact c3⟩, h1, h2⟩

set_option maxRecDepth 100000 in
theorem open_ans {H : Type} {enc : TypeId × Value → H} {W : World} {base : Nat} {v0 : Value} {d0 : DataW H} {p0 : List MemPlace}
    (hval : Value.okWide Try.prog W .any base 27 v0) (h0 : DataW.Trod enc Try.prog W 0 (fun _ => true) true 27 v0 d0 p0) :
    ∃ (a : AA) (k i e : Value), v0 = .agg (ansC a k i e) ∧ AnsV W a k i e ∧ a.key.length ≤ Rows.uptoBulk d0 ∧ (∀ x ∈ a.its, x.id.length ≤ Rows.uptoBulk d0 ∧ x.key.length ≤ Rows.uptoBulk d0) ∧ ∀ x ∈ a.evs, x.id.length ≤ Rows.uptoBulk d0 ∧ x.key.length ≤ Rows.uptoBulk d0 := by
  obtain ⟨c0, c1, c2, c3, c4, c5, c6, c7, c8, y0, y1, y2, y3, y4, y5, y6, y7, y8, n, rfl, t0, t1, t2, t3, t4, t5, t6, t7, t8, hd⟩ := open_agg9 Try.underlying27 (by kernel_rfl) (by kernel_rfl) hval h0
  obtain ⟨a0, e0, _, _⟩ := DataW.trod_int Try.underlying23 t0
  obtain ⟨a1, e1, _, _⟩ := DataW.trod_int Try.underlying3 t1
  obtain ⟨a2, e2, _⟩ := DataW.trod_bool Try.underlying4 t2
  obtain ⟨a3, e3, _⟩ := DataW.trod_bool Try.underlying4 t3
  obtain ⟨l, h4, b4⟩ := open_bytesU t4
  obtain ⟨a5, e5, _, _⟩ := DataW.trod_int Try.underlying3 t5
  obtain ⟨its, h6, b6⟩ := open_itemsU t6
  obtain ⟨evs, h7, b7⟩ := open_eventsU t7
  obtain ⟨a8, e8, _⟩ := DataW.trod_bool Try.underlying4 t8
  obtain rfl : c0 = .int .i64 a0 := by simpa using e0
  obtain rfl : c1 = .int .i64 a1 := by simpa using e1
  obtain rfl : c2 = .bool a2 := by simpa using e2
  obtain rfl : c3 = .bool a3 := by simpa using e3
  obtain rfl : c5 = .int .i64 a5 := by simpa using e5
  obtain rfl : c8 = .bool a8 := by simpa using e8
  have hD : Rows.uptoBulk y4.1 + Rows.uptoBulk y6.1 + Rows.uptoBulk y7.1 ≤ Rows.uptoBulk d0 := by
    rw [hd]
    simp only [Rows.uptoBulk, Rows.uptoBulkAll]
    omega
  exact ⟨⟨a0, a1, a2, a3, l, a5, its, evs, a8⟩, c4, c6, c7, rfl, ⟨h4, h6, h7⟩, by show l.length ≤ _; omega, fun x hx => by have := b6 x hx; omega, fun x hx => by have := b7 x hx; omega⟩

end Go.Proofs.Ytldmbfemoepfkaa

namespace Go.Proofs.Ytldmbfemoepfkaa
open Go.ChangeShapes Go.WideShapes Go.ChangeAt Go.RowKit

set_option maxRecDepth 100000 in
theorem tellAnswersContract (H : Type) (enc : TypeId × Value → H) (W : World) (base : Nat) (args : Array Value) (ds gs : List (DataW H)) (before : List MemPlace)
    (hval : ∀ (j : Nat) t v, Try.f3.params[j]? = some t → args[j]? = some v → Value.okWide Try.prog W .any base t v)
    (hW : DataW.Whole enc Try.prog Try.f3.params.toList Rows.tellAnswersSpec.vars false W args.toList ds gs before) (hk : Rows.uptoSmall H (ds ++ gs) = true) :
    Calls Try.prog 3 args W fun e W' => ∃ v, e = .returned v ∧ Rows.tellAnswersSpec.post enc Try.prog Try.f3 false true false false W args v W' := by
  have hW' := hW
  obtain ⟨p, q, hA0, hV, rfl, hfz, hnd⟩ := hW
  have hA : DataW.TrodAll enc Try.prog W 0 (fun _ => true) true Try.f3.params.toList args.toList ds p := hA0
  rw [Try.params3] at hA hval
  obtain ⟨v0, vs0, d0, ds0, p0, q0, hargs, rfl, rfl, h0, r0⟩ := trodAll_cons hA
  obtain ⟨v1, vs1, d1, ds1, p1, q1, rfl, rfl, rfl, h1, r1⟩ := trodAll_cons r0
  obtain ⟨v2, vs2, d2, ds2, p2, q2, rfl, rfl, rfl, h2, r2⟩ := trodAll_cons r1
  obtain ⟨rfl, rfl, rfl⟩ := trodAll_nil r2
  obtain rfl : args = #[v0, v1, v2] := by cases args; simp_all
  obtain ⟨rfl, rfl⟩ := trodVars_none hV
  have k0 := h0
  have lt0 : ∀ x ∈ p0, x.block < W.heap.size := by obtain ⟨m, hm⟩ := k0; exact DataW.trod_lt m _ _ _ hm
  obtain ⟨l0, hl0, he0⟩ := open_hb (hval 0 22 v0 rfl rfl) h0
  obtain ⟨a1, rfl, rfl, rfl, w1⟩ := open_int Try.underlying3 (hval 1 3 v1 rfl rfl) h1
  have k2 := h2
  have lt2 : ∀ x ∈ p2, x.block < W.heap.size := by obtain ⟨m, hm⟩ := k2; exact DataW.trod_lt m _ _ _ hm
  obtain ⟨aa2, kv2, iv2, ev2, rfl, hl2, hbk2, hbi2, hbe2⟩ := open_ans (hval 2 27 v2 rfl rfl) h2
  have hu0 := hb_bulk he0
  have hsum : l0.length ≤ 1048576 := by
    have h := of_decide_eq_true hk
    simp only [List.append_nil, Rows.uptoBulkAll] at h
    omega
  have hq2 : Rows.uptoBulk d2 ≤ 1048576 := by
    have h := of_decide_eq_true hk
    simp only [List.append_nil, Rows.uptoBulkAll] at h
    omega
  clear hA0
  simp only [List.append_nil] at hW'
  refine (tellAnswers_walk a1 v0 l0 aa2 kv2 iv2 ev2 W hl0 hl2 (by omega) (by omega) (fun x hx => by have := hbi2 x hx; omega) (fun x hx => by have := hbe2 x hx; omega)).mono fun e W' ⟨he, bel⟩ => ?_
  subst he
  exact ⟨_, rfl, _, _, _, [], _, [], hW', trodAll_mk1 (shut_bool Try.underlying4 _), (trodAll_cons_mk (Below.trod laidOut (by kernel_rfl) (of_decide_eq_true (by kernel_rfl)) k0 bel lt0) (trodAll_cons_mk (shut_int Try.underlying3 w1) (trodAll_cons_mk (Below.trod laidOut (by kernel_rfl) (of_decide_eq_true (by kernel_rfl)) k2 bel lt2) trodAll_mk0))), rfl, bel.frame _, fun h => by cases h⟩

set_option maxRecDepth 100000 in
theorem tellAnswersLifted (os : Os) (started : os.Started) (H : Type) (enc : TypeId × Value → H) (F : Stop.Interp) :
    ReturnsInHanded {} Try.checked os 3 .any ((Rows.OpenSpec.upto Rows.tellAnswersSpec).pre6 enc Try.prog Try.f3 Rows.tellAnswersUptoRow.domain false) (((Rows.OpenSpec.upto Rows.tellAnswersSpec).at F).post enc Try.prog Try.f3 false true false false) := by
  refine returnsInHanded_of_cond (C := Try.checked) (s := Rows.OpenSpec.upto Rows.tellAnswersSpec) (k := Rows.uptoSmall) rfl own started (by kernel_rfl) Try.func3
    (OpenSpec.witness (enc := enc) (C := Try.checked) (s := Rows.OpenSpec.upto Rows.tellAnswersSpec) (k := Rows.uptoSmall) rfl false ⟨#[], #[.slice none 0 0, .int .i64 0, .agg #[.int .i64 0, .int .i64 0, .bool false, .bool false, .slice none 0 0, .int .i64 0, .slice none 0 0, .slice none 0 0, .bool false]], []⟩ 8 (by kernel_rfl) (by kernel_rfl) (by kernel_rfl)
      (x := ([.nil, .lit (.int .i64 0), .agg [.lit (.int .i64 0), .lit (.int .i64 0), .lit (.bool false), .lit (.bool false), .nil, .lit (.int .i64 0), .nil, .nil, .lit (.bool false)]], [], [])) (by kernel_rfl) rfl (by kernel_rfl)) ?_
  intro W base args ds gs before hval hW _ hk _
  exact tellAnswersContract H enc W base args ds gs before hval hW hk

theorem tellAnswersUpto_holds : Rows.TellAnswersUptoSaid :=
  OpenClaim.holds_of_cond 3 Try.f3 rfl rfl rfl rfl rfl rfl rfl ⟨rfl, rfl, rfl, rfl, rfl⟩ rfl rfl rfl rfl rfl (by kernel_rfl) Try.func3 (by kernel_rfl)
    (of_decide_eq_true (by kernel_rfl)) (by unfold Func.isWrapper; first | (rw [if_pos (by decide +kernel)]; kernel_rfl) | (rw [if_neg (by decide +kernel)]; exact ⟨rfl, rfl⟩))
    (fun os started H enc _ F => tellAnswersLifted os started H enc F)

#print axioms tellAnswersUpto_holds
end Go.Proofs.Ytldmbfemoepfkaa
