/- What this text proves: plain facts about lists of bytes: a text taken apart into its parts, and made of them; no program is named. -/
namespace Go.Proofs.YtgfddabccjfhiaaDoor

/-- The part that bytes begin with, and what stands behind it. -/
def takeF : List UInt8 → Option (List UInt8 × List UInt8)
  | a :: b :: r => if a.toNat * 256 + b.toNat ≤ r.length then some (r.take (a.toNat * 256 + b.toNat), r.drop (a.toNat * 256 + b.toNat)) else none
  | _ => none

theorem takeF_lt {l p r : List UInt8} (h : takeF l = some (p, r)) : r.length + 2 ≤ l.length := by
  match l, h with
  | a :: b :: s, h =>
    simp only [takeF] at h
    split at h
    · simp only [Option.some.injEq, Prod.mk.injEq] at h
      obtain ⟨_, rfl⟩ := h
      simp
    · cases h

/-- The parts that bytes are made of, in so many steps. -/
def partsN : Nat → List UInt8 → Option (List (List UInt8))
  | 0, l => if l = [] then some [] else none
  | n + 1, l => if l = [] then some [] else
    match takeF l with
    | none => none
    | some (p, r) => (partsN n r).map (p :: ·)

theorem partsN_same : ∀ (n m : Nat) (l : List UInt8), l.length ≤ n → l.length ≤ m → partsN n l = partsN m l := by
  intro n
  induction n with
  | zero =>
    intro m l hn hm
    obtain rfl : l = [] := List.eq_nil_of_length_eq_zero (by omega)
    cases m <;> simp [partsN]
  | succ n ih =>
    intro m l hn hm
    by_cases hl : l = []
    · subst hl
      cases m <;> simp [partsN]
    · cases m with
      | zero => exact absurd (List.eq_nil_of_length_eq_zero (by omega)) hl
      | succ m =>
        simp only [partsN, if_neg hl]
        match ht : takeF l with
        | none => rfl
        | some (p, r) =>
          have := takeF_lt ht
          simp only
          rw [ih m r (by omega) (by omega)]

/-- The parts that bytes are made of. -/
def parts (l : List UInt8) : Option (List (List UInt8)) := partsN l.length l

theorem parts_nil : parts [] = some [] := by simp [parts, partsN]
theorem parts_none {l : List UInt8} (hl : l ≠ []) (h : takeF l = none) : parts l = none := by
  unfold parts
  cases hn : l.length with
  | zero => exact absurd (List.eq_nil_of_length_eq_zero hn) hl
  | succ n => simp only [partsN, if_neg hl, h]
theorem parts_some {l p r : List UInt8} (h : takeF l = some (p, r)) : parts l = (parts r).map (p :: ·) := by
  have hl : l ≠ [] := by
    intro e
    subst e
    cases h
  have hlt := takeF_lt h
  unfold parts
  cases hn : l.length with
  | zero => exact absurd (List.eq_nil_of_length_eq_zero hn) hl
  | succ n =>
    simp only [partsN, if_neg hl, h]
    rw [partsN_same n r.length r (by omega) (by omega)]

/-- A part with its length ahead. -/
def part (p : List UInt8) : List UInt8 := UInt8.ofNat (p.length / 256) :: UInt8.ofNat p.length :: p
/-- The text of a tag and parts, but for the tag. -/
def body (ls : List (List UInt8)) : List UInt8 := ls.flatMap part

theorem takeF_part (p r : List UInt8) (h : p.length ≤ 65535) : takeF (part p ++ r) = some (p, r) := by
  have e : (UInt8.ofNat (p.length / 256)).toNat * 256 + (UInt8.ofNat p.length).toNat = p.length := by
    simp
    omega
  simp only [part, List.cons_append, takeF]
  rw [e, if_pos (by simp)]
  simp

theorem parts_body (ls : List (List UInt8)) (h : ∀ p ∈ ls, p.length ≤ 65535) : parts (body ls) = some ls := by
  induction ls with
  | nil => exact parts_nil
  | cons p r ih =>
    have e : body (p :: r) = part p ++ body r := by simp [body]
    rw [e, parts_some (takeF_part p (body r) (h p (by simp))), ih (fun q hq => h q (by simp [hq]))]
    rfl

theorem takeF_back {l p r : List UInt8} (h : takeF l = some (p, r)) : part p ++ r = l ∧ p.length ≤ 65535 := by
  match l, h with
  | a :: b :: s, h =>
    simp only [takeF] at h
    split at h
    · rename_i hle
      simp only [Option.some.injEq, Prod.mk.injEq] at h
      obtain ⟨rfl, rfl⟩ := h
      have ha := a.toNat_lt
      have hb := b.toNat_lt
      have hl : (s.take (a.toNat * 256 + b.toNat)).length = a.toNat * 256 + b.toNat := by simp; omega
      refine ⟨?_, by omega⟩
      unfold part
      rw [hl]
      have e1 : UInt8.ofNat ((a.toNat * 256 + b.toNat) / 256) = a := by
        apply UInt8.toNat_inj.1
        simp
        omega
      have e2 : UInt8.ofNat (a.toNat * 256 + b.toNat) = b := by
        apply UInt8.toNat_inj.1
        simp
      rw [e1, e2]
      simp
    · cases h

theorem parts_back : ∀ (n : Nat) (l : List UInt8) (ls : List (List UInt8)), l.length ≤ n → parts l = some ls → body ls = l ∧ ∀ p ∈ ls, p.length ≤ 65535 := by
  intro n
  induction n with
  | zero =>
    intro l ls hn h
    obtain rfl : l = [] := List.eq_nil_of_length_eq_zero (by omega)
    rw [parts_nil] at h
    cases h
    exact ⟨rfl, by simp⟩
  | succ n ih =>
    intro l ls hn h
    by_cases hl : l = []
    · subst hl
      rw [parts_nil] at h
      cases h
      exact ⟨rfl, by simp⟩
    · match ht : takeF l with
      | none => rw [parts_none hl ht] at h; cases h
      | some (p, r) =>
        rw [parts_some ht] at h
        match hp : parts r with
        | none => rw [hp] at h; cases h
        | some ms =>
          rw [hp] at h
          cases h
          have hlt := takeF_lt ht
          obtain ⟨e, hb⟩ := ih r ms (by omega) hp
          obtain ⟨e', hb'⟩ := takeF_back ht
          refine ⟨?_, ?_⟩
          · show (p :: ms).flatMap part = l
            rw [List.flatMap_cons]
            show part p ++ body ms = l
            rw [e, e']
          · intro q hq
            rcases List.mem_cons.1 hq with rfl | hq
            · exact hb'
            · exact hb q hq

/-- The texts of two lists of parts are alike only where the lists are. -/
theorem body_inj (ls ms : List (List UInt8)) (h1 : ∀ p ∈ ls, p.length ≤ 65535) (h2 : ∀ p ∈ ms, p.length ≤ 65535) (h : body ls = body ms) : ls = ms := by
  have := parts_body ls h1
  rw [h, parts_body ms h2] at this
  simpa using this.symm

/-- A text taken apart: its tag and parts. -/
def splitF : List UInt8 → Option (UInt8 × List (List UInt8))
  | [] => none
  | t :: r => (parts r).map fun ps => (t, ps)

/-- What is left to be taken apart, with the parts that are taken. -/
def going (l : List UInt8) (acc : List (List UInt8)) (rest : List UInt8) : Prop := parts l = (parts rest).map (acc ++ ·) ∧ acc.length * 2 + rest.length ≤ l.length

theorem going_start (l : List UInt8) : going l [] l := ⟨by cases parts l <;> simp, by simp⟩
theorem going_none {l rest : List UInt8} {acc : List (List UInt8)} (h : going l acc rest) (hn : rest ≠ []) (ht : takeF rest = none) : parts l = none := by
  rw [h.1, parts_none hn ht]
  rfl
theorem going_some {l rest p r : List UInt8} {acc : List (List UInt8)} (h : going l acc rest) (ht : takeF rest = some (p, r)) : going l (acc ++ [p]) r := by
  refine ⟨?_, ?_⟩
  · rw [h.1, parts_some ht]
    cases parts r <;> simp
  · have := takeF_lt ht
    have := h.2
    simp
    omega
theorem going_end {l : List UInt8} {acc : List (List UInt8)} (h : going l acc []) : parts l = some acc := by
  rw [h.1, parts_nil]
  simp

theorem body_snoc (ls : List (List UInt8)) (k : Nat) (l : List UInt8) (h : ls[k]? = some l) : body (ls.take (k + 1)) = body (ls.take k) ++ part l := by
  rw [List.take_add_one, h]
  simp [body]
theorem part_length (l : List UInt8) : (part l).length = l.length + 2 := by simp [part]
/-- Each part has 65535 bytes at most. -/
def fits (ls : List (List UInt8)) : Prop := ∀ p ∈ ls, p.length ≤ 65535
theorem fits_snoc {ls : List (List UInt8)} {k : Nat} {l : List UInt8} (hf : fits (ls.take k)) (h : ls[k]? = some l) (hl : l.length ≤ 65535) : fits (ls.take (k + 1)) := by
  rw [List.take_add_one, h]
  intro p hp
  rcases List.mem_append.1 hp with hp | hp
  · exact hf p hp
  · simp at hp
    subst hp
    exact hl
theorem body_le (ls : List (List UInt8)) (hf : fits ls) : (body ls).length ≤ ls.length * 65537 := by
  induction ls with
  | nil => simp [body]
  | cons p r ih =>
    have h1 := ih (fun q hq => hf q (by simp [hq]))
    have h2 := hf p (by simp)
    have e : body (p :: r) = part p ++ body r := by simp [body]
    rw [e, List.length_append, part_length]
    simp
    omega
theorem body_take_le (ls : List (List UInt8)) (k : Nat) (hk : k ≤ ls.length) (hf : fits (ls.take k)) : (body (ls.take k)).length ≤ k * 65537 := by
  have := body_le _ hf
  rwa [List.length_take, Nat.min_eq_left hk] at this
theorem body_mono (ls : List (List UInt8)) (k : Nat) : (body (ls.take k)).length ≤ (body ls).length := by
  have e : body ls = body (ls.take k) ++ body (ls.drop k) := by
    unfold body
    rw [← List.flatMap_append, List.take_append_drop]
  rw [e, List.length_append]
  omega

end Go.Proofs.YtgfddabccjfhiaaDoor
