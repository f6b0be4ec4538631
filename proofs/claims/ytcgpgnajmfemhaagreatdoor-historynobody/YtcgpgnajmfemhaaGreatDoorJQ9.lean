/- What this text proves: plain facts about lists of bytes: a text taken apart into its parts, and made of them; no program is named. What this text proves: the walk of texts.Text over this program: the text of a tag and parts in new memory, or the error of a tag that is not 0 to 255, or of a part that is too long; for 1048576 parts at most. What this text proves: the walk of texts.Hash over this program. What this text proves: the walk of texts.Number over this program: a number in eight bytes. What this text proves: the walk of the document's Number over this program: a number in eight bytes. What this text proves: texts.Number and the document's Number, as one plain function; literals of rows of bytes in new memory. What this text proves: the walks of sha.Cut and texts.Hash over this program; the answer lies in a block of bytes. -/
import Derived.Test.YtcgpgnajmfemhaaGreatDoorJQ4
import Derived.Test.YtcgpgnajmfemhaaGreatDoorJOw
import Derived.Test.YtcgpgnajmfemhaaGreatDoorJQ6
import Derived.Test.YtcgpgnajmfemhaaGreatDoorJSm
namespace Go.Proofs.YtcgpgnajmfemhaaGreatDoor

/-- The part that bytes begin with, and what stands behind it. -/
def takeF : List UInt8 → Option (List UInt8 × List UInt8)
  | a :: b :: r => if a.toNat * 256 + b.toNat ≤ r.length then some (r.take (a.toNat * 256 + b.toNat), r.drop (a.toNat * 256 + b.toNat)) else none
  | _ => none

theorem takeF_lt {l p r : List UInt8} (h : takeF l = some (p, r)) : r.length + 2 ≤ l.length := by
  match l, h with
  | a :: b :: s, h =>
    simp only [takeF] at h
    split at h
    · simp only [Option.some.injEq, Prod.mk.injEq] at h
      obtain ⟨_, rfl⟩ := h
      simp
    · cases h

/-- The parts that bytes are made of, in so many steps. -/
def partsN : Nat → List UInt8 → Option (List (List UInt8))
  | 0, l => if l = [] then some [] else none
  | n + 1, l => if l = [] then some [] else
    match takeF l with
    | none => none
    | some (p, r) => (partsN n r).map (p :: ·)

theorem partsN_same : ∀ (n m : Nat) (l : List UInt8), l.length ≤ n → l.length ≤ m → partsN n l = partsN m l := by
  intro n
  induction n with
  | zero =>
    intro m l hn hm
    obtain rfl : l = [] := List.eq_nil_of_length_eq_zero (by omega)
    cases m <;> simp [partsN]
  | succ n ih =>
    intro m l hn hm
    by_cases hl : l = []
    · subst hl
      cases m <;> simp [partsN]
    · cases m with
      | zero => exact absurd (List.eq_nil_of_length_eq_zero (by omega)) hl
      | succ m =>
        simp only [partsN, if_neg hl]
        match ht : takeF l with
        | none => rfl
        | some (p, r) =>
          have := takeF_lt ht
          simp only
          rw [ih m r (by omega) (by omega)]

/-- The parts that bytes are made of. -/
def parts (l : List UInt8) : Option (List (List UInt8)) := partsN l.length l

theorem parts_nil : parts [] = some [] := by simp [parts, partsN]
theorem parts_none {l : List UInt8} (hl : l ≠ []) (h : takeF l = none) : parts l = none := by
  unfold parts
  cases hn : l.length with
  | zero => exact absurd (List.eq_nil_of_length_eq_zero hn) hl
  | succ n => simp only [partsN, if_neg hl, h]
theorem parts_some {l p r : List UInt8} (h : takeF l = some (p, r)) : parts l = (parts r).map (p :: ·) := by
  have hl : l ≠ [] := by
    intro e
    subst e
    cases h
  have hlt := takeF_lt h
  unfold parts
  cases hn : l.length with
  | zero => exact absurd (List.eq_nil_of_length_eq_zero hn) hl
  | succ n =>
    simp only [partsN, if_neg hl, h]
    rw [partsN_same n r.length r (by omega) (by omega)]

/-- A part with its length ahead. -/
def part (p : List UInt8) : List UInt8 := UInt8.ofNat (p.length / 256) :: UInt8.ofNat p.length :: p
/-- The text of a tag and parts, but for the tag. -/
def body (ls : List (List UInt8)) : List UInt8 := ls.flatMap part

theorem takeF_part (p r : List UInt8) (h : p.length ≤ 65535) : takeF (part p ++ r) = some (p, r) := by
  have e : (UInt8.ofNat (p.length / 256)).toNat * 256 + (UInt8.ofNat p.length).toNat = p.length := by
    simp
    omega
  simp only [part, List.cons_append, takeF]
  rw [e, if_pos (by simp)]
  simp

theorem parts_body (ls : List (List UInt8)) (h : ∀ p ∈ ls, p.length ≤ 65535) : parts (body ls) = some ls := by
  induction ls with
  | nil => exact parts_nil
  | cons p r ih =>
    have e : body (p :: r) = part p ++ body r := by simp [body]
    rw [e, parts_some (takeF_part p (body r) (h p (by simp))), ih (fun q hq => h q (by simp [hq]))]
    rfl

theorem takeF_back {l p r : List UInt8} (h : takeF l = some (p, r)) : part p ++ r = l ∧ p.length ≤ 65535 := by
  match l, h with
  | a :: b :: s, h =>
    simp only [takeF] at h
    split at h
    · rename_i hle
      simp only [Option.some.injEq, Prod.mk.injEq] at h
      obtain ⟨rfl, rfl⟩ := h
      have ha := a.toNat_lt
      have hb := b.toNat_lt
      have hl : (s.take (a.toNat * 256 + b.toNat)).length = a.toNat * 256 + b.toNat := by simp; omega
      refine ⟨?_, by omega⟩
      unfold part
      rw [hl]
      have e1 : UInt8.ofNat ((a.toNat * 256 + b.toNat) / 256) = a := by
        apply UInt8.toNat_inj.1
        simp
        omega
      have e2 : UInt8.ofNat (a.toNat * 256 + b.toNat) = b := by
        apply UInt8.toNat_inj.1
        simp
      rw [e1, e2]
      simp
    · cases h

theorem parts_back : ∀ (n : Nat) (l : List UInt8) (ls : List (List UInt8)), l.length ≤ n → parts l = some ls → body ls = l ∧ ∀ p ∈ ls, p.length ≤ 65535 := by
  intro n
  induction n with
  | zero =>
    intro l ls hn h
    obtain rfl : l = [] := List.eq_nil_of_length_eq_zero (by omega)
    rw [parts_nil] at h
    cases h
    exact ⟨rfl, by simp⟩
  | succ n ih =>
    intro l ls hn h
    by_cases hl : l = []
    · subst hl
      rw [parts_nil] at h
      cases h
      exact ⟨rfl, by simp⟩
    · match ht : takeF l with
      | none => rw [parts_none hl ht] at h; cases h
      | some (p, r) =>
        rw [parts_some ht] at h
        match hp : parts r with
        | none => rw [hp] at h; cases h
        | some ms =>
          rw [hp] at h
          cases h
          have hlt := takeF_lt ht
          obtain ⟨e, hb⟩ := ih r ms (by omega) hp
          obtain ⟨e', hb'⟩ := takeF_back ht
          refine ⟨?_, ?_⟩
          · show (p :: ms).flatMap part = l
            rw [List.flatMap_cons]
            show part p ++ body ms = l
            rw [e, e']
          · intro q hq
            rcases List.mem_cons.1 hq with rfl | hq
            · exact hb'
            · exact hb q hq

/-- The texts of two lists of parts are alike only where the lists are. -/
theorem body_inj (ls ms : List (List UInt8)) (h1 : ∀ p ∈ ls, p.length ≤ 65535) (h2 : ∀ p ∈ ms, p.length ≤ 65535) (h : body ls = body ms) : ls = ms := by
  have := parts_body ls h1
  rw [h, parts_body ms h2] at this
  simpa using this.symm

/-- A text taken apart: its tag and parts. -/
def splitF : List UInt8 → Option (UInt8 × List (List UInt8))
  | [] => none
  | t :: r => (parts r).map fun ps => (t, ps)

/-- What is left to be taken apart, with the parts that are taken. -/
def going (l : List UInt8) (acc : List (List UInt8)) (rest : List UInt8) : Prop := parts l = (parts rest).map (acc ++ ·) ∧ acc.length * 2 + rest.length ≤ l.length

theorem going_start (l : List UInt8) : going l [] l := ⟨by cases parts l <;> simp, by simp⟩
theorem going_none {l rest : List UInt8} {acc : List (List UInt8)} (h : going l acc rest) (hn : rest ≠ []) (ht : takeF rest = none) : parts l = none := by
  rw [h.1, parts_none hn ht]
  rfl
theorem going_some {l rest p r : List UInt8} {acc : List (List UInt8)} (h : going l acc rest) (ht : takeF rest = some (p, r)) : going l (acc ++ [p]) r := by
  refine ⟨?_, ?_⟩
  · rw [h.1, parts_some ht]
    cases parts r <;> simp
  · have := takeF_lt ht
    have := h.2
    simp
    omega
theorem going_end {l : List UInt8} {acc : List (List UInt8)} (h : going l acc []) : parts l = some acc := by
  rw [h.1, parts_nil]
  simp

theorem body_snoc (ls : List (List UInt8)) (k : Nat) (l : List UInt8) (h : ls[k]? = some l) : body (ls.take (k + 1)) = body (ls.take k) ++ part l := by
  rw [List.take_add_one, h]
  simp [body]
theorem part_length (l : List UInt8) : (part l).length = l.length + 2 := by simp [part]
/-- Each part has 65535 bytes at most. -/
def fits (ls : List (List UInt8)) : Prop := ∀ p ∈ ls, p.length ≤ 65535
theorem fits_snoc {ls : List (List UInt8)} {k : Nat} {l : List UInt8} (hf : fits (ls.take k)) (h : ls[k]? = some l) (hl : l.length ≤ 65535) : fits (ls.take (k + 1)) := by
  rw [List.take_add_one, h]
  intro p hp
  rcases List.mem_append.1 hp with hp | hp
  · exact hf p hp
  · simp at hp
    subst hp
    exact hl
theorem body_le (ls : List (List UInt8)) (hf : fits ls) : (body ls).length ≤ ls.length * 65537 := by
  induction ls with
  | nil => simp [body]
  | cons p r ih =>
    have h1 := ih (fun q hq => hf q (by simp [hq]))
    have h2 := hf p (by simp)
    have e : body (p :: r) = part p ++ body r := by simp [body]
    rw [e, List.length_append, part_length]
    simp
    omega
theorem body_take_le (ls : List (List UInt8)) (k : Nat) (hk : k ≤ ls.length) (hf : fits (ls.take k)) : (body (ls.take k)).length ≤ k * 65537 := by
  have := body_le _ hf
  rwa [List.length_take, Nat.min_eq_left hk] at this
theorem body_mono (ls : List (List UInt8)) (k : Nat) : (body (ls.take k)).length ≤ (body ls).length := by
  have e : body ls = body (ls.take k) ++ body (ls.drop k) := by
    unfold body
    rw [← List.flatMap_append, List.take_append_drop]
  rw [e, List.length_append]
  omega

end Go.Proofs.YtcgpgnajmfemhaaGreatDoor

namespace Go.Proofs.YtcgpgnajmfemhaaGreatDoor
open Go.RowKit

set_option maxRecDepth 100000 in
set_option maxHeartbeats 400000 in
theorem text_arg (tag : Int) (v : Value) (w : World) (p : Option Addr) (n c : Nat) (hv : v = .slice p n c) (h : tag < 0 ∨ 255 < tag) :
    Calls Tryz.prog 104 #[.int .i64 tag, v] w fun e w' => e = .returned (.tuple #[.slice none 0 0, .int .i64 1]) ∧ w' = w := by
  subst hv
  rcases h with h | h
  · have hd : decide (tag < 0) = true := by simpa using h
    go_enter Tryz.func104, Tryz.ntmps104
    go_wp2
    go_ret2
    exact ⟨rfl, rfl⟩
  · have hd : decide (tag < 0) = false := by simp; omega
    go_enter Tryz.func104, Tryz.ntmps104
    go_wp2
    go_ret2
    exact ⟨rfl, rfl⟩

set_option maxRecDepth 100000 in
set_option maxHeartbeats 2000000 in
theorem text_full (tag : Int) (v : Value) (ls : List (List UInt8)) (w : World) (h0 : 0 ≤ tag) (h1 : tag ≤ 255) (h : PA w v ls) (hn : ls.length ≤ 1048576) (hf : ¬ fits ls) :
    Calls Tryz.prog 104 #[.int .i64 tag, v] w fun e w' => e = .returned (.tuple #[.slice none 0 0, .int .i64 4]) ∧ w' = w := by
  obtain ⟨p, c, rfl⟩ := h.shape
  have hlen := h.len.2
  unfold maxLen at hlen
  have hne : ls ≠ [] := by
    intro e
    subst e
    exact hf (fun p hp => by cases hp)
  obtain ⟨b, o, rfl⟩ := h.addr (List.length_pos_iff.2 hne)
  have hd : decide (tag < 0) = false := by simp; omega
  have HF : Hid (¬ fits ls) := hf
  clear hf hne
  go_enter Tryz.func104, Tryz.ntmps104
  go_wp2
  go_loop [6, 20] (fun r i => ∃ k : Nat, k ≤ ls.length ∧ i = .int .i64 k ∧ fits (ls.take k) ∧ r = .int .i64 (1 + ((body (ls.take k)).length : Int))) (fun _ i => ls.length - (intOf i).toNat)
  case atStart => exact ⟨0, Nat.zero_le _, rfl, (fun p hp => by simp at hp), by simp [body]⟩
  case round =>
    obtain ⟨k, hk, rfl, hfk, rfl⟩ := hrel
    have hbl := body_take_le ls k hk hfk
    by_cases hlt : k < ls.length
    · obtain ⟨q1, k1, l1, g1, hc1, hb1⟩ := h.get k hlt
      have hl1 := hb1.len.2
      unfold maxLen at hl1
      generalize hL : (body (ls.take k)).length = L at *
      have HL : Hid ((body (ls.take k)).length = L) := hL
      clear hL
      by_cases hbig : l1.length ≤ 65535
      · have hsn := body_snoc ls k l1 g1.out
        have HS : Hid ((body (ls.take (k + 1))).length = L + (l1.length + 2)) := by
          show (body (ls.take (k + 1))).length = L + (l1.length + 2)
          rw [hsn, List.length_append, part_length, HL.out]
        have hfs := fits_snoc hfk g1.out hbig
        clear hsn hfk
        go_wp2
        go_round
        case rel => exact ⟨k + 1, by omega, by go_num, hfs, by rw [HS.out]; go_num⟩
        case measure => simp [intOf]; omega
      · clear hfk
        go_wp2
        go_ret2
        exact ⟨rfl, rfl⟩
    · exact absurd (by rw [List.take_of_length_le (by omega)] at hfk; exact hfk) HF.out

theorem text_step (ls : List (List UInt8)) (k : Nat) (l : List UInt8) (t : UInt8) (h : ls[k]? = some l) (hl : l.length ≤ 65535) :
    bcs (t :: body (ls.take k)) ++ [.int .u8 ((l.length : Int) / 256), .int .u8 ((l.length : Int) % 256)] ++ bcs l = bcs (t :: body (ls.take (k + 1))) := by
  rw [body_snoc ls k l h]
  have e1 : bc (UInt8.ofNat (l.length / 256)) = .int .u8 ((l.length : Int) / 256) := by simp [bc]; omega
  have e2 : bc (UInt8.ofNat l.length) = .int .u8 ((l.length : Int) % 256) := by simp [bc]
  rw [← e1, ← e2]
  simp [bcs, part]

set_option maxRecDepth 100000 in
set_option maxHeartbeats 4000000 in
theorem text_ok (tag : Int) (v : Value) (ls : List (List UInt8)) (w : World) (h0 : 0 ≤ tag) (h1 : tag ≤ 255) (h : PA w v ls) (hn : ls.length ≤ 1048576) (hf : fits ls) :
    Calls Tryz.prog 104 #[.int .i64 tag, v] w fun e w' => ∃ v', e = .returned (.tuple #[v', .int .i64 0]) ∧ w'.ownsRow w.heap.size 5 1 v' ((body ls).length + 1) (bcs (UInt8.ofNat tag.toNat :: body ls)) ∧ Below w.heap.size w w' := by
  obtain ⟨p, c, rfl⟩ := h.shape
  have hlen := h.len.2
  unfold maxLen at hlen
  have hd : decide (tag < 0) = false := by simp; omega
  have htot := body_le ls hf
  obtain ⟨i0, hi, hz0, hz1, hz2⟩ := info_parts i_u8
  go_enter Tryz.func104, Tryz.ntmps104
  go_wp2
  go_loop [6, 20] (fun r i => ∃ k : Nat, k ≤ ls.length ∧ i = .int .i64 k ∧ r = .int .i64 (1 + ((body (ls.take k)).length : Int))) (fun _ i => ls.length - (intOf i).toNat)
  case atStart => exact ⟨0, Nat.zero_le _, rfl, by simp [body]⟩
  case round =>
    obtain ⟨k, hk, rfl, rfl⟩ := hrel
    have hbl := body_mono ls k
    by_cases hlt : k < ls.length
    · obtain ⟨b, o, rfl⟩ := h.addr (by omega)
      obtain ⟨q1, k1, l1, g1, hc1, hb1⟩ := h.get k hlt
      have hbig : l1.length ≤ 65535 := hf l1 (List.mem_of_getElem? g1.out)
      generalize hL : (body (ls.take k)).length = L at *
      have HL : Hid ((body (ls.take k)).length = L) := hL
      clear hL
      have hsn := body_snoc ls k l1 g1.out
      have HS : Hid ((body (ls.take (k + 1))).length = L + (l1.length + 2)) := by
        show (body (ls.take (k + 1))).length = L + (l1.length + 2)
        rw [hsn, List.length_append, part_length, HL.out]
      clear hsn
      go_wp2
      go_round
      case rel => exact ⟨k + 1, by omega, by go_num, by rw [HS.out]; go_num⟩
      case measure => simp [intOf]; omega
    · have hkl : k = ls.length := by omega
      subst hkl
      rw [List.take_of_length_le (Nat.le_refl _)] at hbl ⊢
      clear hbl hlt hk
      generalize hT : (body ls).length = T at *
      have HT : Hid ((body ls).length = T) := hT
      clear hT
      go_wp2_with (first | (at_make; refine wpList_make_own _ rfl _ _ 37 rfl w.heap.size 5 i0 (.int .u8 0) 1 Tryz.underlying37 hi hz0 hz1 .i64 .i64 _ (1 + T) rfl rfl ?qa ?qb ?qc ?qd ?_))
      case qb => omega
      case qc => unfold maxLen; omega
      intro w1 hown1 hgrow1
      have hb1 : Below w.heap.size w w1 := (Below.refl _ w).grown hgrow1 (Nat.le_refl _) (by intro k hk; cases hk)
      go_wp2_with (first | (at_builtin; refine wpList_append_fits _ rfl _ _ 37 rfl w.heap.size 5 i0 1 Tryz.underlying37 hi hz1 w.heap.size 0 (1 + T) _ rfl (hown1.alloc _) ⟨w1.heap.size, 0, none⟩ 1 1 [.int .u8 tag] rfl rfl ?qe ?qf ?qg ?_))
      case qe => exact cell_one_new _ _ _
      case qf => intro u hu; simp at hu; subst hu; rfl
      case qg => omega
      intro w2 hown2 hgrow2
      have hb2 : Below w.heap.size w w2 := (hb1.alloc hb1.size _).grown hgrow2 (by have := hb1.size; simp; omega) (by intro k hk; cases hk; exact Nat.le_refl _)
      have htg : bcs [UInt8.ofNat tag.toNat] = [.int .u8 tag] := by simp [bcs, bc]; omega
      clear hown1 hgrow1 hgrow2 hb1
      go_wp2
      go_loopw [9, 42] (fun v i wr => ∃ k : Nat, k ≤ ls.length ∧ i = .int .i64 k ∧ wr.ownsRow w.heap.size 5 1 v (1 + (body (ls.take k)).length) (bcs (UInt8.ofNat tag.toNat :: body (ls.take k))) ∧ Below w.heap.size w wr)
        (fun _ i _ => ls.length - (intOf i).toNat)
      case atStart => exact ⟨0, Nat.zero_le _, rfl, by simpa [body, htg] using hown2, hb2⟩
      case round =>
        obtain ⟨k, hk, rfl, hown, hbe⟩ := hrel
        clear hown2 hb2
        by_cases hlt : k < ls.length
        · obtain ⟨b, o, rfl⟩ := h.addr (by omega)
          obtain ⟨q1, k1, l1, g1, hc1, hb1⟩ := h.get k hlt
          have hbig : l1.length ≤ 65535 := hf l1 (List.mem_of_getElem? g1.out)
          have hcr := cell_later hbe hc1
          have hbr := hb1.later hbe
          have hszr := hbe.size
          have hbk := body_mono ls k
          rw [HT.out] at hbk
          have HS := text_step ls k l1 (UInt8.ofNat tag.toNat) g1.out hbig
          have HL : Hid ((body (ls.take (k + 1))).length = (body (ls.take k)).length + (l1.length + 2)) := by
            show (body (ls.take (k + 1))).length = (body (ls.take k)).length + (l1.length + 2)
            rw [body_snoc ls k l1 g1.out, List.length_append, part_length]
          generalize bcs (UInt8.ofNat tag.toNat :: body (ls.take k)) = X at *
          generalize (body (ls.take k)).length = L at *
          have HS2 : Hid (X ++ [.int .u8 ((l1.length : Int) / 256), .int .u8 ((l1.length : Int) % 256)] ++ bcs l1 = bcs (UInt8.ofNat tag.toNat :: body (ls.take (k + 1)))) := HS
          clear HS hc1
          go_wp2_with (first | (at_builtin; refine wpList_append_own _ rfl (.tmp 46) (.tmp 54) 37 rfl w.heap.size 5 i0 (.int .u8 0) 1 1 Tryz.underlying37 hi hz0 hz1 hz2 rfl (by decide) _ _ _ rfl (hown.alloc _) ⟨wr.heap.size, 0, none⟩ 2 2 [.int .u8 ((l1.length : Int) / 256), .int .u8 ((l1.length : Int) % 256)] rfl rfl ?ra ?rb ?rc ?rd ?re ?_))
          case ra => exact cell_two_new _ _ _ _
          case rb => intro u hu; simp at hu; rcases hu with rfl | rfl <;> rfl
          case rc => unfold maxLen; omega
          case rd => omega
          case re => simp; omega
          intro v3 w3 hown3 hgrow3 _
          have hb3 : Below w.heap.size w w3 := (hbe.alloc hszr _).grown hgrow3 (by simp; omega) (fun k hk => (hown.lt k hk).1)
          have hsz3 := hb3.size
          have hbr3 := hb1.later hb3
          clear hown hgrow3 hbr hcr
          go_wp2_with (first | (at_builtin; refine wpList_append_hb rfl (.tmp 56) (.tmp 57) 37 rfl w.heap.size 5 Tryz.underlying37 i_u8 _ _ _ rfl hown3 _ _ _ l1 rfl hbr3 ?sa ?sb ?_))
          case sa => omega
          case sb => omega
          intro v4 w4 hown4 hgrow4
          have hb4 : Below w.heap.size w w4 := hb3.grown hgrow4 hsz3 (fun k hk => (hown3.lt k hk).1)
          have hown5 : w4.ownsRow w.heap.size 5 1 v4 (1 + (body (ls.take (k + 1))).length) (bcs (UInt8.ofNat tag.toNat :: body (ls.take (k + 1)))) := by
            rw [HL.out, ← HS2.out]
            have e : 1 + (L + (l1.length + 2)) = 1 + L + 2 + l1.length := by omega
            rw [e]
            simpa using hown4
          clear hown4 hown3 hgrow4 hb3 hbr3
          go_wp2
          go_roundw
          case rel => first | exact ⟨k + 1, by omega, by go_num, hown5, hb4⟩ | ((repeat apply Exists.intro); exact ⟨⟨k + 1, by omega, by go_num, hown5, hb4⟩, rfl⟩)
          case measure => simp [intOf]; omega
        · have hkl : k = ls.length := by omega
          subst hkl
          rw [List.take_of_length_le (Nat.le_refl _), HT.out] at hown
          go_wp2
          go_ret2
          refine ⟨_, rfl, ?_, hbe⟩
          rw [HT.out, Nat.add_comm T 1]
          exact hown

end Go.Proofs.YtcgpgnajmfemhaaGreatDoor

namespace Go.Proofs.YtcgpgnajmfemhaaGreatDoor
open Go.RowKit

/-- The bytes of a digest. -/
def hashL (size er : Int) (D : List UInt8) : List UInt8 := if er = 0 then D.take (cutLen size) else []

set_option maxRecDepth 100000 in
set_option maxHeartbeats 1000000 in
theorem hash_any (size tag er : Int) (v : Value) (L D : List UInt8) (w : World) (hv : ∃ p n c, v = .slice p n c) (hD : D.length = 32)
    (ht : Calls Tryz.prog 104 #[.int .i64 tag, v] w fun e w' => ∃ p c, e = .returned (.tuple #[.slice p L.length c, .int .i64 er]) ∧ HB w' (.slice p L.length c) L ∧ Below w.heap.size w w')
    (hs : ∀ v w', HB w' v L → Below w.heap.size w w' → Calls Tryz.prog 115 #[v] w' fun e w'' => ∃ v', e = .returned v' ∧ w''.ownsRow w'.heap.size 5 1 v' 32 (bcs D) ∧ Below w'.heap.size w' w'') :
    Calls Tryz.prog 59 #[.int .i64 size, .int .i64 tag, v] w fun e w' => ∃ p c, e = .returned (.slice p (hashL size er D).length c) ∧ HB w' (.slice p (hashL size er D).length c) (hashL size er D) ∧ Below w.heap.size w w' := by
  obtain ⟨p, n, c, rfl⟩ := hv
  have HT : Hid (Calls Tryz.prog 104 #[.int .i64 tag, .slice p n c] w fun e w' => ∃ p c, e = .returned (.tuple #[.slice p L.length c, .int .i64 er]) ∧ HB w' (.slice p L.length c) L ∧ Below w.heap.size w w') := ht
  have HS : Hid _ := hs
  have HD : Hid (D.length = 32) := hD
  clear ht hs hD
  by_cases h0 : er = 0
  · subst h0
    have hl : hashL size 0 D = D.take (cutLen size) := by simp [hashL]
    rw [hl]
    clear hl
    have HL : Hid ((D.take (cutLen size)).length = cutLen size) := by
      have := cutLen_le size
      show _ = _
      rw [List.length_take, HD.out]
      omega
    go_enter Tryz.func59, Tryz.ntmps59
    go_wp2_with fail
    refine HT.out.mono ?_
    rintro e w1 ⟨p1, c1, rfl, h1, hb1⟩
    go_wp2_with fail
    refine (cut_any _ _ _ _ HD.out (HS.out _ _ h1 hb1)).mono ?_
    rintro e w2 ⟨p2, c2, rfl, h2, hb2⟩
    have HH : Hid (HB w2 (.slice p2 (cutLen size) c2) (D.take (cutLen size))) := h2
    clear h1 h2 HT HS
    go_wp2
    go_ret
    refine ⟨p2, c2, ?_, ?_, hb1.trans (hb2.mono hb1.size)⟩
    · rw [HL.out]; rfl
    · rw [HL.out]; exact HH.out
  · have hl : hashL size er D = [] := by simp [hashL, h0]
    rw [hl]
    clear hl HS HD
    go_enter Tryz.func59, Tryz.ntmps59
    go_wp2_with fail
    refine HT.out.mono ?_
    rintro e w1 ⟨p1, c1, rfl, h1, hb1⟩
    clear HT h1
    go_wp2
    go_ret
    exact ⟨none, 0, rfl, HB.nil _, hb1⟩

/-- The digest of a text of a tag and parts, cut to size bytes; none, if a part is too long. -/
def hashF (size : Int) (tag : Nat) (ls : List (List UInt8)) : List UInt8 := if ∀ p ∈ ls, p.length ≤ 65535 then (sha (UInt8.ofNat tag :: body ls)).take (cutLen size) else []

theorem hash_to (size : Int) (tag : Nat) (v : Value) (ls : List (List UInt8)) (w : World) (hn : ls.length ≤ 10) (ht : tag ≤ 255) (h : PA w v ls) (hT : Tabs w) :
    Calls Tryz.prog 59 #[.int .i64 size, .int .i64 (tag : Int), v] w fun e w' => ∃ p c, e = .returned (.slice p (hashF size tag ls).length c) ∧ HB w' (.slice p (hashF size tag ls).length c) (hashF size tag ls) ∧ Below w.heap.size w w' := by
  obtain ⟨p, c, hv⟩ := h.shape
  by_cases hf : fits ls
  · have hle := body_le ls hf
    have e1 : hashF size tag ls = hashL size 0 (sha (UInt8.ofNat tag :: body ls)) := by
      unfold hashF hashL
      rw [if_pos (show ∀ p ∈ ls, p.length ≤ 65535 from hf), if_pos rfl]
    rw [e1]
    have hl : (UInt8.ofNat tag :: body ls).length ≤ 140737488355328 := by simp; omega
    refine hash_any size tag 0 v (UInt8.ofNat tag :: body ls) _ w ⟨p, _, c, hv⟩ (sha_length _) ?_ ?_
    · refine (text_ok tag v ls w (by omega) (by omega) h (by omega) hf).mono fun e w' ⟨v', he, ho, hb⟩ => ?_
      have hh := HB.of_owns ho
      obtain ⟨p, c, hv⟩ := hh.shape
      subst hv
      exact ⟨p, c, he, hh, hb⟩
    · intro v w' hv hb
      exact sum_any v _ w' hv hl (hT.later hb)
  · have e1 : hashF size tag ls = hashL size 4 (sha []) := by
      unfold hashF hashL
      rw [if_neg (show ¬ ∀ p ∈ ls, p.length ≤ 65535 from hf), if_neg (by decide)]
    rw [e1]
    refine hash_any size tag 4 v [] _ w ⟨p, _, c, hv⟩ (sha_length _) ?_ ?_
    · exact (text_full tag v ls w (by omega) (by omega) h (by omega) hf).mono fun e w' ⟨he, hw⟩ => ⟨none, 0, he, HB.nil _, by subst hw; exact Below.refl _ _⟩
    · intro v w' hv hb
      exact sum_any v _ w' hv (by simp) (hT.later hb)

end Go.Proofs.YtcgpgnajmfemhaaGreatDoor

namespace Go.Proofs.YtcgpgnajmfemhaaGreatDoor
open Go.RowKit

/-- The first k bytes of a number, and noughts behind. -/
def numTo (U k : Nat) : List UInt8 := (be64 U).take k ++ List.replicate (8 - k) 0
theorem numTo_step (U k : Nat) (hk : k < 8) : (numTo U k).set k (UInt8.ofNat (U / 2 ^ (8 * (7 - k)))) = numTo U (k + 1) := by
  have hl : ((be64 U).take k).length = k := by rw [List.length_take, be64_length]; omega
  have e : 8 - k = (8 - (k + 1)) + 1 := by omega
  unfold numTo
  rw [List.set_append_right _ _ (by omega), hl, Nat.sub_self, e, List.replicate_succ, List.set_cons_zero, List.take_add_one, be64_get _ _ hk]
  simp
theorem numTo_all (U : Nat) : numTo U 8 = be64 U := by
  unfold numTo
  rw [List.take_of_length_le (by rw [be64_length]; omega)]
  simp
theorem numV (U k : Nat) (hk : k < 8) : Value.int .u8 ((U : Int) / 2 ^ (56 - 8 * k) % 256) = bc (UInt8.ofNat (U / 2 ^ (8 * (7 - k)))) := by
  unfold bc
  have e : 56 - 8 * k = 8 * (7 - k) := by omega
  rw [e, show (U : Int) / 2 ^ (8 * (7 - k)) % 256 = ((U / 2 ^ (8 * (7 - k)) % 256 : Nat) : Int) by simp]
  simp

theorem u64_nat (n : Int) : ∃ U : Nat, IntKind.u64.wrap n = (U : Int) ∧ U < 18446744073709551616 := by
  have e : IntKind.u64.wrap n = n % 18446744073709551616 := by simp [IntKind.wrap, IntKind.bits, IntKind.signed]
  exact ⟨(n % 18446744073709551616).toNat, by rw [e]; omega, by omega⟩

set_option maxRecDepth 100000 in
set_option maxHeartbeats 1000000 in
theorem number_any (n : Int) (U : Nat) (hU : IntKind.u64.wrap n = (U : Int)) (w : World) :
    Calls Tryz.prog 140 #[.int .i64 n] w fun e w' => ∃ p c, e = .returned (.slice p 8 c) ∧ HB w' (.slice p 8 c) (be64 U) ∧ Below w.heap.size w w' := by
  obtain ⟨i0, hi, hz0, hz1, hz2⟩ := info_parts i_u8
  go_enter Tryz.func140, Tryz.ntmps140
  go_wp2_with (at_make; refine wpList_make_full _ rfl _ _ 37 rfl w.heap.size 5 i0 (.int .u8 0) 1 Tryz.underlying37 hi hz0 hz1 .i64 .i64 _ _ 8 rfl rfl ?qa ?qb ?qc ?qd ?qe ?_)
  all_goals (try (first | omega | (unfold maxLen; omega) | (rw [hz2]; omega)))
  intro w1 hown1 hgrow1
  have hb1 : Below w.heap.size w w1 := (Below.refl _ w).grown hgrow1 (Nat.le_refl _) (by intro k hk; cases hk)
  have hown1' : w1.ownsRow w.heap.size 5 1 (.slice (some ⟨w.heap.size, 0, none⟩) 8 8) 8 (bcs (numTo U 0)) := by
    have e : numTo U 0 = List.replicate 8 0 := rfl
    rw [e, ← made_bcs]
    simpa using hown1
  clear hown1 hgrow1
  go_wp2
  go_loopw [8] (fun i wr => ∃ k : Nat, k ≤ 8 ∧ i = .int .i64 k ∧ wr.ownsRow w.heap.size 5 1 (.slice (some ⟨w.heap.size, 0, none⟩) 8 8) 8 (bcs (numTo U k)) ∧ Below w.heap.size w wr)
    (fun i _ => 8 - (intOf i).toNat)
  case atStart => exact ⟨0, by omega, rfl, hown1', hb1⟩
  case round =>
    clear hown1' hb1
    obtain ⟨k, hk, rfl, hown, hbe⟩ := hrel
    by_cases hlt : k < 8
    · have hlen : (numTo U k).length = 8 := by
        have := hown.1
        rw [bcs_length] at this
        omega
      have hq : (bcs (numTo U k))[k]? = some (bc ((numTo U k).getD k 0)) := by
        rw [bcs_get]
        have : k < (numTo U k).length := by omega
        simp [List.getD, this]
      have q1 := hown.cellAt k (by omega)
      rw [hq] at q1
      have qf := hown.frozenAt k
      generalize (numTo U k).getD k 0 = y at *
      have HNV : Hid (Value.int .u8 ((U : Int) / 2 ^ (56 - 8 * k) % 256) = bc (UInt8.ofNat (U / 2 ^ (8 * (7 - k))))) := numV U k hlt
      have hk8 : (k : Int) < 8 := by omega
      clear hq hlen
      unfold bc at q1
      go_wp2
      have hown2 := owns_put hown k (UInt8.ofNat (U / 2 ^ (8 * (7 - k)))) _ HNV.out
      rw [numTo_step U k hlt] at hown2
      have hb2 : Below w.heap.size w (wr.setCell ⟨w.heap.size, k, none⟩ (.int .u8 ((U : Int) / 2 ^ (56 - 8 * k) % 256))) := hbe.setCell (Nat.le_refl _) _
      clear HNV q1 qf hown hbe
      go_roundw
      case rel => first | exact ⟨k + 1, by omega, by go_num, hown2, hb2⟩ | ((repeat apply Exists.intro); exact ⟨⟨k + 1, by omega, by go_num, hown2, hb2⟩, rfl⟩)
      case measure => simp [intOf]; omega
    · have hk8 : k = 8 := by omega
      subst hk8
      rw [numTo_all] at hown
      have hh := HB.of_owns hown
      have HH : Hid (HB wr (.slice (some ⟨w.heap.size, 0, none⟩) 8 8) (be64 U)) := hh
      clear hh hown
      go_wp2
      go_ret
      exact ⟨_, _, rfl, HH.out, hbe⟩

end Go.Proofs.YtcgpgnajmfemhaaGreatDoor

namespace Go.Proofs.YtcgpgnajmfemhaaGreatDoor.Vf
open Go.RowKit

end Go.Proofs.YtcgpgnajmfemhaaGreatDoor.Vf

namespace Go.Proofs.YtcgpgnajmfemhaaGreatDoor.Vf
open Go.RowKit

theorem hid {p : Prop} (h : p) : Hid p := h

/-- A number in eight bytes. -/
def numB (n : Int) : List UInt8 := be64 (IntKind.u64.wrap n).toNat

theorem number_to (n : Int) (w : World) :
    Calls Tryz.prog 140 #[.int .i64 n] w fun e w' => ∃ p c, e = .returned (.slice p 8 c) ∧ HB w' (.slice p 8 c) (numB n) ∧ Below w.heap.size w w' := by
  obtain ⟨U, hU, _⟩ := u64_nat n
  have e : numB n = be64 U := by unfold numB; rw [hU]; simp
  rw [e]
  exact number_any n U hU w

/-- A literal of rows of bytes in a new block. -/
theorem _root_.Go.Proofs.YtcgpgnajmfemhaaGreatDoor.PA.lit (w : World) (e : TypeId) (vs : List Value) (ls : List (List UInt8)) (n : Nat) (hn : n = ls.length) (hv : vs.length = ls.length) (hm : n ≤ maxLen)
    (h : ∀ (i : Nat) x l, vs[i]? = some x → ls[i]? = some l → HB w x l) : PA (w.alloc (.cells vs.toArray e)) (.slice (some ⟨w.heap.size, 0, none⟩) n n) ls := by
  subst hn
  refine ⟨_, ls.length, vs, rfl, Nat.le_refl _, hm, (fun h => by cases h), hv, fun _ => ⟨_, 0, rfl, fun i x hx => ?_⟩, fun i x l hx hl => ?_⟩
  · rw [Nat.zero_add, cell_of_row _ _ i _ _ _ (heap_alloc_new w _)]
    simp [hx]
  · exact (h i x l hx hl).later ((Below.refl _ w).alloc (Nat.le_refl _) _)

theorem four_hb {w : World} {a b c d : Value} {la lb lc ld : List UInt8} (ha : HB w a la) (hb : HB w b lb) (hc : HB w c lc) (hd : HB w d ld) :
    ∀ (i : Nat) x l, [a, b, c, d][i]? = some x → [la, lb, lc, ld][i]? = some l → HB w x l := by
  intro i x l h1 h2
  match i with
  | 0 => simp at h1 h2; subst h1; subst h2; exact ha
  | 1 => simp at h1 h2; subst h1; subst h2; exact hb
  | 2 => simp at h1 h2; subst h1; subst h2; exact hc
  | 3 => simp at h1 h2; subst h1; subst h2; exact hd
  | n + 4 => simp at h1

theorem three_hb {w : World} {a b c : Value} {la lb lc : List UInt8} (ha : HB w a la) (hb : HB w b lb) (hc : HB w c lc) :
    ∀ (i : Nat) x l, [a, b, c][i]? = some x → [la, lb, lc][i]? = some l → HB w x l := by
  intro i x l h1 h2
  match i with
  | 0 => simp at h1 h2; subst h1; subst h2; exact ha
  | 1 => simp at h1 h2; subst h1; subst h2; exact hb
  | 2 => simp at h1 h2; subst h1; subst h2; exact hc
  | n + 3 => simp at h1

theorem two_hb {w : World} {a b : Value} {la lb : List UInt8} (ha : HB w a la) (hb : HB w b lb) :
    ∀ (i : Nat) x l, [a, b][i]? = some x → [la, lb][i]? = some l → HB w x l := by
  intro i x l h1 h2
  match i with
  | 0 => simp at h1 h2; subst h1; subst h2; exact ha
  | 1 => simp at h1 h2; subst h1; subst h2; exact hb
  | n + 2 => simp at h1

theorem five_hb {w : World} {a b c d e : Value} {la lb lc ld le : List UInt8} (ha : HB w a la) (hb : HB w b lb) (hc : HB w c lc) (hd : HB w d ld) (he : HB w e le) :
    ∀ (i : Nat) x l, [a, b, c, d, e][i]? = some x → [la, lb, lc, ld, le][i]? = some l → HB w x l := by
  intro i x l h1 h2
  match i with
  | 0 => simp at h1 h2; subst h1; subst h2; exact ha
  | 1 => simp at h1 h2; subst h1; subst h2; exact hb
  | 2 => simp at h1 h2; subst h1; subst h2; exact hc
  | 3 => simp at h1 h2; subst h1; subst h2; exact hd
  | 4 => simp at h1 h2; subst h1; subst h2; exact he
  | n + 5 => simp at h1

end Go.Proofs.YtcgpgnajmfemhaaGreatDoor.Vf

namespace Go.Proofs.YtcgpgnajmfemhaaGreatDoor
open Go.RowKit

set_option maxRecDepth 100000 in
set_option maxHeartbeats 1000000 in
theorem cut_ty (n : Int) (v : Value) (D : List UInt8) (w : World) (hD : D.length = 32) (hsum : Calls Tryz.prog 115 #[v] w fun e w' => ∃ v', e = .returned v' ∧ w'.ownsRow w.heap.size 5 1 v' 32 (bcs D) ∧ Below w.heap.size w w') :
    Calls Tryz.prog 105 #[.int .i64 n, v] w fun e w' => ∃ p c, e = .returned (.slice p (cutLen n) c) ∧ HB w' (.slice p (cutLen n) c) (D.take (cutLen n)) ∧ Below w.heap.size w w' ∧ TB w' (.slice p (cutLen n) c) := by
  have HS : Hid (Calls Tryz.prog 115 #[v] w fun e w' => ∃ v', e = .returned v' ∧ w'.ownsRow w.heap.size 5 1 v' 32 (bcs D) ∧ Below w.heap.size w w') := hsum
  have HD : Hid (D.length = 32) := hD
  clear hsum hD
  by_cases h : n < 1
  · have hc : cutLen n = 0 := by unfold cutLen; omega
    rw [hc]
    clear HS hc
    go_enter Tryz.func105, Tryz.ntmps105
    go_wp2
    go_ret
    exact ⟨none, 0, rfl, HB.nil _, Below.refl _ _, TB.nil _ _ _⟩
  · by_cases h32 : 32 < n
    · have hc : cutLen n = 32 := by unfold cutLen; omega
      rw [hc]
      clear hc
      go_enter Tryz.func105, Tryz.ntmps105
      go_wp2_with fail
      refine HS.out.mono ?_
      rintro e w1 ⟨v1, rfl, hown1, hb1⟩
      have s1 := HB.of_owns hown1
      obtain ⟨p1, c1, hv1⟩ := owns_shape hown1
      subst hv1
      have t1 := TB.of_owns hown1
      have hl := s1.len.2.1
      have hmx := s1.len.2.2.1
      have s2 := s1.cut 0 32 32 (by omega) (by omega) (by omega) hl
      have e1 : cutP p1 32 0 = p1 := by unfold cutP; cases p1 <;> simp [Addr.add]
      rw [e1, Nat.sub_zero, List.drop_zero] at s2
      have HS2 : Hid (HB w1 (.slice p1 32 32) (D.take 32)) := s2
      clear hown1 HS s2 e1 s1
      go_wp2
      go_ret
      exact ⟨_, _, rfl, HS2.out, hb1, t1.front _ _⟩
    · obtain ⟨m, hm⟩ : ∃ m : Nat, (m : Int) = n := ⟨n.toNat, by omega⟩
      have hc : cutLen n = m := by unfold cutLen; omega
      rw [hc]
      subst hm
      have hle : m ≤ 32 := by omega
      have hle2 : (m : Int) ≤ 32 := by omega
      clear hc h32
      go_enter Tryz.func105, Tryz.ntmps105
      go_wp2_with fail
      refine HS.out.mono ?_
      rintro e w1 ⟨v1, rfl, hown1, hb1⟩
      have s1 := HB.of_owns hown1
      obtain ⟨p1, c1, hv1⟩ := owns_shape hown1
      subst hv1
      have t1 := TB.of_owns hown1
      have hl := s1.len.2.1
      have hmx := s1.len.2.2.1
      have s2 := s1.cut 0 m m (by omega) (by omega) (by omega) (by omega)
      have e1 : cutP p1 m 0 = p1 := by unfold cutP; cases p1 <;> simp [Addr.add]
      rw [e1, Nat.sub_zero, List.drop_zero] at s2
      have HS2 : Hid (HB w1 (.slice p1 m m) (D.take m)) := s2
      have hmc : (m : Int) ≤ (c1 : Int) := by omega
      clear hown1 HS s2 e1 s1
      go_wp2_with fail
      go_ret
      exact ⟨_, _, rfl, HS2.out, hb1, t1.front _ _⟩

set_option maxRecDepth 100000 in
set_option maxHeartbeats 1000000 in
theorem hash_ty (size tag er : Int) (v : Value) (L D : List UInt8) (w : World) (hv : ∃ p n c, v = .slice p n c) (hD : D.length = 32)
    (ht : Calls Tryz.prog 104 #[.int .i64 tag, v] w fun e w' => ∃ p c, e = .returned (.tuple #[.slice p L.length c, .int .i64 er]) ∧ HB w' (.slice p L.length c) L ∧ Below w.heap.size w w')
    (hs : ∀ v w', HB w' v L → Below w.heap.size w w' → Calls Tryz.prog 115 #[v] w' fun e w'' => ∃ v', e = .returned v' ∧ w''.ownsRow w'.heap.size 5 1 v' 32 (bcs D) ∧ Below w'.heap.size w' w'') :
    Calls Tryz.prog 59 #[.int .i64 size, .int .i64 tag, v] w fun e w' => ∃ p c, e = .returned (.slice p (hashL size er D).length c) ∧ HB w' (.slice p (hashL size er D).length c) (hashL size er D) ∧ Below w.heap.size w w' ∧ TB w' (.slice p (hashL size er D).length c) := by
  obtain ⟨p, n, c, rfl⟩ := hv
  have HT : Hid (Calls Tryz.prog 104 #[.int .i64 tag, .slice p n c] w fun e w' => ∃ p c, e = .returned (.tuple #[.slice p L.length c, .int .i64 er]) ∧ HB w' (.slice p L.length c) L ∧ Below w.heap.size w w') := ht
  have HS : Hid _ := hs
  have HD : Hid (D.length = 32) := hD
  clear ht hs hD
  by_cases h0 : er = 0
  · subst h0
    have hl : hashL size 0 D = D.take (cutLen size) := by simp [hashL]
    rw [hl]
    clear hl
    have HL : Hid ((D.take (cutLen size)).length = cutLen size) := by
      have := cutLen_le size
      show _ = _
      rw [List.length_take, HD.out]
      omega
    go_enter Tryz.func59, Tryz.ntmps59
    go_wp2_with fail
    refine HT.out.mono ?_
    rintro e w1 ⟨p1, c1, rfl, h1, hb1⟩
    go_wp2_with fail
    refine (cut_ty _ _ _ _ HD.out (HS.out _ _ h1 hb1)).mono ?_
    rintro e w2 ⟨p2, c2, rfl, h2, hb2, t2⟩
    have HH : Hid (HB w2 (.slice p2 (cutLen size) c2) (D.take (cutLen size))) := h2
    clear h1 h2 HT HS
    go_wp2
    go_ret
    refine ⟨p2, c2, ?_, ?_, hb1.trans (hb2.mono hb1.size), t2.front _ _⟩
    · rw [HL.out]; rfl
    · rw [HL.out]; exact HH.out
  · have hl : hashL size er D = [] := by simp [hashL, h0]
    rw [hl]
    clear hl HS HD
    go_enter Tryz.func59, Tryz.ntmps59
    go_wp2_with fail
    refine HT.out.mono ?_
    rintro e w1 ⟨p1, c1, rfl, h1, hb1⟩
    clear HT h1
    go_wp2
    go_ret
    exact ⟨none, 0, rfl, HB.nil _, hb1, TB.nil _ _ _⟩

theorem hash_toT (size : Int) (tag : Nat) (v : Value) (ls : List (List UInt8)) (w : World) (hn : ls.length ≤ 10) (ht : tag ≤ 255) (h : PA w v ls) (hT : Tabs w) :
    Calls Tryz.prog 59 #[.int .i64 size, .int .i64 (tag : Int), v] w fun e w' => ∃ p c, e = .returned (.slice p (hashF size tag ls).length c) ∧ HB w' (.slice p (hashF size tag ls).length c) (hashF size tag ls) ∧ Below w.heap.size w w' ∧ TB w' (.slice p (hashF size tag ls).length c) := by
  obtain ⟨p, c, hv⟩ := h.shape
  by_cases hf : fits ls
  · have hle := body_le ls hf
    have e1 : hashF size tag ls = hashL size 0 (sha (UInt8.ofNat tag :: body ls)) := by
      unfold hashF hashL
      rw [if_pos (show ∀ p ∈ ls, p.length ≤ 65535 from hf), if_pos rfl]
    rw [e1]
    have hl : (UInt8.ofNat tag :: body ls).length ≤ 140737488355328 := by simp; omega
    refine hash_ty size tag 0 v (UInt8.ofNat tag :: body ls) _ w ⟨p, _, c, hv⟩ (sha_length _) ?_ ?_
    · refine (text_ok tag v ls w (by omega) (by omega) h (by omega) hf).mono fun e w' ⟨v', he, ho, hb⟩ => ?_
      have hh := HB.of_owns ho
      obtain ⟨p, c, hv⟩ := hh.shape
      subst hv
      exact ⟨p, c, he, hh, hb⟩
    · intro v w' hv hb
      exact sum_any v _ w' hv hl (hT.later hb)
  · have e1 : hashF size tag ls = hashL size 4 (sha []) := by
      unfold hashF hashL
      rw [if_neg (show ¬ ∀ p ∈ ls, p.length ≤ 65535 from hf), if_neg (by decide)]
    rw [e1]
    refine hash_ty size tag 4 v [] _ w ⟨p, _, c, hv⟩ (sha_length _) ?_ ?_
    · exact (text_full tag v ls w (by omega) (by omega) h (by omega) hf).mono fun e w' ⟨he, hw⟩ => ⟨none, 0, he, HB.nil _, by subst hw; exact Below.refl _ _⟩
    · intro v w' hv hb
      exact sum_any v _ w' hv (by simp) (hT.later hb)

end Go.Proofs.YtcgpgnajmfemhaaGreatDoor
