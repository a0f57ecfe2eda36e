/- Plain mathematics: how the parts of a text are read, one after the other. -/
import Derived.Test.YtlhgpeelenelbaaDoorHI
import Derived.Lib.ItoaMem
namespace Go.Proofs.YtlhgpeelenelbaaDoor

theorem stepW_ok {s : List UInt8} {st : Nat × Bool} {c : UInt8} (h : (stepW s st c).2 = false) : st.2 = false ∧ (stepW s st c).1 = st.1 + 1 := by
  obtain ⟨a, b⟩ := st
  unfold stepW at h ⊢
  cases b with
  | true => simp at h
  | false =>
    by_cases hc : s[a]? = some c
    · simp [hc]
    · simp [hc] at h
theorem wordF_ok (s : List UInt8) : ∀ (w : List UInt8) (st : Nat × Bool), (wordF s w st).2 = false → st.2 = false ∧ (wordF s w st).1 = st.1 + w.length
  | [], _, h => ⟨h, rfl⟩
  | c :: w, st, h => by
    have e : wordF s (c :: w) st = wordF s w (stepW s st c) := rfl
    rw [e] at h ⊢
    obtain ⟨h1, h2⟩ := wordF_ok s w _ h
    obtain ⟨h3, h4⟩ := stepW_ok h1
    refine ⟨h3, ?_⟩
    rw [h2, h4]
    simp
    omega
theorem numF_ok {s : List UInt8} {lo hi : Int} {st : Nat × Bool} (h : (numF s lo hi st).2.2 = false) (hs : st.1 ≤ s.length) (hh : 0 ≤ hi) :
    st.2 = false ∧ lo ≤ (numF s lo hi st).1 ∧ 0 ≤ (numF s lo hi st).1 ∧ (numF s lo hi st).1 ≤ hi ∧ st.1 ≤ (numF s lo hi st).2.1 ∧ (numF s lo hi st).2.1 ≤ s.length := by
  obtain ⟨b1, b2, b3, b4⟩ := numF_bd s lo hi hi st hh (Int.le_refl _) hs
  refine ⟨?_, ?_, b1, b2, b3, b4⟩
  · unfold numF at h
    split at h
    · rw [h]
    · rename_i hb; simpa using hb
  · unfold numF at h ⊢
    split at h
    · rename_i hb; rw [hb] at h; cases h
    · rename_i hb
      rw [if_neg hb]
      simp at h
      exact h.2
theorem turnF_ok {s : List UInt8} {st : Nat × Bool} (h : (turnF s st).2.2 = false) (hs : st.1 ≤ s.length) : TOk (turnF s st).1.1 (turnF s st).1.2.1 (turnF s st).1.2.2 ∧ st.2 = false ∧ st.1 < (turnF s st).2.1 ∧ (turnF s st).2.1 ≤ s.length := by
  obtain ⟨s1, hs1⟩ : ∃ q, wordF s wEvery st = q := ⟨_, rfl⟩
  obtain ⟨⟨p, s2⟩, hs2⟩ : ∃ q, numF s 1 40320 s1 = q := ⟨_, rfl⟩
  obtain ⟨s3, hs3⟩ : ∃ q, wordF s wFrom s2 = q := ⟨_, rfl⟩
  obtain ⟨⟨f, s4⟩, hs4⟩ : ∃ q, numF s 0 (p - 1) s3 = q := ⟨_, rfl⟩
  obtain ⟨s5, hs5⟩ : ∃ q, wordF s wFor s4 = q := ⟨_, rfl⟩
  obtain ⟨⟨l, s6⟩, hs6⟩ : ∃ q, numF s 1 p s5 = q := ⟨_, rfl⟩
  obtain ⟨s7, hs7⟩ : ∃ q, wordF s wEnd s6 = q := ⟨_, rfl⟩
  have hres : turnF s st = ((p, f, l), s7) := by
    simp only [turnF, hs1, hs2, hs3, hs4, hs5, hs6, hs7]
  rw [hres] at h ⊢
  simp only at h ⊢
  have a1 := wordF_le s wEvery st hs
  rw [hs1] at a1
  have a2 := numF_bd s 1 40320 40320 s1 (by omega) (by omega) a1.1
  rw [hs2] at a2
  simp only at a2
  have a3 := wordF_le s wFrom s2 a2.2.2.2
  rw [hs3] at a3
  have a4 := numF_bd s 0 (p - 1) 40320 s3 (by omega) (by omega) a3.1
  rw [hs4] at a4
  simp only at a4
  have a5 := wordF_le s wFor s4 a4.2.2.2
  rw [hs5] at a5
  have a6 := numF_bd s 1 p 40320 s5 (by omega) (by omega) a5.1
  rw [hs6] at a6
  simp only at a6
  have a7 := wordF_le s wEnd s6 a6.2.2.2
  rw [hs7] at a7
  obtain ⟨k6, e7⟩ := wordF_ok s wEnd s6 (by rw [hs7]; exact h)
  have k5 := numF_ok (s := s) (lo := 1) (hi := p) (st := s5) (by rw [hs6]; exact k6) a5.1 (by omega)
  rw [hs6] at k5
  simp only at k5
  obtain ⟨k4, e5⟩ := wordF_ok s wFor s4 (by rw [hs5]; exact k5.1)
  have hbad : 1 ≤ p := by omega
  have k3 := numF_ok (s := s) (lo := 0) (hi := p - 1) (st := s3) (by rw [hs4]; exact k4) a3.1 (by omega)
  rw [hs4] at k3
  simp only at k3
  obtain ⟨k2, e3⟩ := wordF_ok s wFrom s2 (by rw [hs3]; exact k3.1)
  have k1 := numF_ok (s := s) (lo := 1) (hi := 40320) (st := s1) (by rw [hs2]; exact k2) a1.1 (by omega)
  rw [hs2] at k1
  simp only at k1
  obtain ⟨k0, e1⟩ := wordF_ok s wEvery st (by rw [hs1]; exact k1.1)
  rw [hs1] at e1
  have hw : wEvery.length = 6 := rfl
  refine ⟨⟨?_, ?_, ?_, ?_, ?_, ?_⟩, k0, ?_, ?_⟩ <;> omega
theorem spanF_ok {s : List UInt8} {st : Nat × Bool} (h : (spanF s st).2.2 = false) (hs : st.1 ≤ s.length) : SOk (spanF s st).1.1 (spanF s st).1.2 ∧ st.2 = false ∧ st.1 < (spanF s st).2.1 ∧ (spanF s st).2.1 ≤ s.length := by
  obtain ⟨s1, hs1⟩ : ∃ q, wordF s wBetween st = q := ⟨_, rfl⟩
  obtain ⟨⟨p, s2⟩, hs2⟩ : ∃ q, numF s 0 1048576 s1 = q := ⟨_, rfl⟩
  obtain ⟨s3, hs3⟩ : ∃ q, wordF s wAnd s2 = q := ⟨_, rfl⟩
  obtain ⟨⟨f, s4⟩, hs4⟩ : ∃ q, numF s p 1048576 s3 = q := ⟨_, rfl⟩
  obtain ⟨s7, hs7⟩ : ∃ q, wordF s wEnd s4 = q := ⟨_, rfl⟩
  have hres : spanF s st = ((p, f), s7) := by
    simp only [spanF, hs1, hs2, hs3, hs4, hs7]
  rw [hres] at h ⊢
  simp only at h ⊢
  have a1 := wordF_le s wBetween st hs
  rw [hs1] at a1
  have a2 := numF_bd s 0 1048576 1048576 s1 (by omega) (by omega) a1.1
  rw [hs2] at a2
  simp only at a2
  have a3 := wordF_le s wAnd s2 a2.2.2.2
  rw [hs3] at a3
  have a4 := numF_bd s p 1048576 1048576 s3 (by omega) (by omega) a3.1
  rw [hs4] at a4
  simp only at a4
  have a7 := wordF_le s wEnd s4 a4.2.2.2
  rw [hs7] at a7
  obtain ⟨k4, e7⟩ := wordF_ok s wEnd s4 (by rw [hs7]; exact h)
  have k3 := numF_ok (s := s) (lo := p) (hi := 1048576) (st := s3) (by rw [hs4]; exact k4) a3.1 (by omega)
  rw [hs4] at k3
  simp only at k3
  obtain ⟨k2, e3⟩ := wordF_ok s wAnd s2 (by rw [hs3]; exact k3.1)
  have k1 := numF_ok (s := s) (lo := 0) (hi := 1048576) (st := s1) (by rw [hs2]; exact k2) a1.1 (by omega)
  rw [hs2] at k1
  simp only at k1
  obtain ⟨k0, e1⟩ := wordF_ok s wBetween st (by rw [hs1]; exact k1.1)
  rw [hs1] at e1
  have hw : wBetween.length = 8 := rfl
  refine ⟨⟨?_, ?_, ?_⟩, k0, ?_, ?_⟩ <;> omega

/-- Parts are read, at most f of them: the set so far, where the reader stands, whether it has failed. -/
def partsL (s : List UInt8) : Nat → List T3 → List S2 → Nat → List T3 × List S2 × Nat × Bool
  | 0, ts, ss, a => (ts, ss, a, false)
  | f + 1, ts, ss, a =>
    match s[a]? with
    | none => (ts, ss, a, false)
    | some c =>
      if c.toNat = 101 ∧ ss.length = 0 then
        if (turnF s (a, false)).2.2 = true then (ts ++ [(turnF s (a, false)).1], ss, (turnF s (a, false)).2.1, true) else partsL s f (ts ++ [(turnF s (a, false)).1]) ss (turnF s (a, false)).2.1
      else
        if (spanF s (a, false)).2.2 = true then (ts, ss ++ [(spanF s (a, false)).1], (spanF s (a, false)).2.1, true) else partsL s f ts (ss ++ [(spanF s (a, false)).1]) (spanF s (a, false)).2.1
theorem partsL_fuel (s : List UInt8) : ∀ (f g : Nat) (ts : List T3) (ss : List S2) (a : Nat), s.length - a ≤ f → s.length - a ≤ g → partsL s f ts ss a = partsL s g ts ss a
  | 0, 0, _, _, _, _, _ => rfl
  | 0, g + 1, ts, ss, a, hf, _ => by
    unfold partsL
    rw [List.getElem?_eq_none (by omega)]
  | f + 1, 0, ts, ss, a, _, hg => by
    unfold partsL
    rw [List.getElem?_eq_none (by omega)]
  | f + 1, g + 1, ts, ss, a, hf, hg => by
    unfold partsL
    cases hc : s[a]? with
    | none => rfl
    | some c =>
      have hl := (List.getElem?_eq_some_iff.1 hc).1
      simp only
      split
      · split
        · rfl
        · rename_i hb
          obtain ⟨_, _, h3, _⟩ := turnF_ok (s := s) (st := (a, false)) (by simpa using hb) (Nat.le_of_lt hl)
          simp only at h3
          exact partsL_fuel s f g _ _ _ (by omega) (by omega)
      · split
        · rfl
        · rename_i hb
          obtain ⟨_, _, h3, _⟩ := spanF_ok (s := s) (st := (a, false)) (by simpa using hb) (Nat.le_of_lt hl)
          simp only at h3
          exact partsL_fuel s f g _ _ _ (by omega) (by omega)
/-- All parts from a place on. -/
def partsN (s : List UInt8) (ts : List T3) (ss : List S2) (a : Nat) : List T3 × List S2 × Nat × Bool := partsL s (s.length - a) ts ss a
section
variable {s : List UInt8} {ts : List T3} {ss : List S2} {a : Nat} {c : UInt8}
theorem partsN_end (h : s.length ≤ a) : partsN s ts ss a = (ts, ss, a, false) := by
  unfold partsN
  rw [show s.length - a = 0 by omega]
  rfl
theorem partsN_step (hc : s[a]? = some c) : partsN s ts ss a =
    if c.toNat = 101 ∧ ss.length = 0 then
      if (turnF s (a, false)).2.2 = true then (ts ++ [(turnF s (a, false)).1], ss, (turnF s (a, false)).2.1, true) else partsN s (ts ++ [(turnF s (a, false)).1]) ss (turnF s (a, false)).2.1
    else
      if (spanF s (a, false)).2.2 = true then (ts, ss ++ [(spanF s (a, false)).1], (spanF s (a, false)).2.1, true) else partsN s ts (ss ++ [(spanF s (a, false)).1]) (spanF s (a, false)).2.1 := by
  have hl := (List.getElem?_eq_some_iff.1 hc).1
  conv => lhs; unfold partsN
  obtain ⟨f, hf⟩ : ∃ f, s.length - a = f + 1 := ⟨s.length - a - 1, by omega⟩
  rw [hf]
  conv => lhs; unfold partsL
  rw [hc]
  simp only
  split
  · split
    · rfl
    · rename_i hb
      obtain ⟨_, _, h3, _⟩ := turnF_ok (s := s) (st := (a, false)) (by simpa using hb) (Nat.le_of_lt hl)
      simp only at h3
      exact partsL_fuel s _ _ _ _ _ (by omega) (Nat.le_refl _)
  · split
    · rfl
    · rename_i hb
      obtain ⟨_, _, h3, _⟩ := spanF_ok (s := s) (st := (a, false)) (by simpa using hb) (Nat.le_of_lt hl)
      simp only at h3
      exact partsL_fuel s _ _ _ _ _ (by omega) (Nat.le_refl _)
end
/-- What is read is a valid set, but for its length. -/
theorem partsL_ok (s : List UInt8) : ∀ (f : Nat) (ts : List T3) (ss : List S2) (a : Nat), AllOk ts ss → (partsL s f ts ss a).2.2.2 = false → AllOk (partsL s f ts ss a).1 (partsL s f ts ss a).2.1
  | 0, ts, ss, a, h, _ => h
  | f + 1, ts, ss, a, h, hb => by
    unfold partsL at hb ⊢
    cases hc : s[a]? with
    | none => exact h
    | some c =>
      rw [hc] at hb
      have hl := (List.getElem?_eq_some_iff.1 hc).1
      simp only at hb ⊢
      split
      · rename_i h1
        rw [if_pos h1] at hb
        split
        · rename_i h2
          rw [if_pos h2] at hb
          cases hb
        · rename_i h2
          rw [if_neg h2] at hb
          obtain ⟨ht, _⟩ := turnF_ok (s := s) (st := (a, false)) (by simpa using h2) (Nat.le_of_lt hl)
          refine partsL_ok s f _ _ _ ⟨fun t hm => ?_, h.2⟩ hb
          rcases List.mem_append.1 hm with hm | hm
          · exact h.1 t hm
          · simp at hm; subst hm; exact ht
      · rename_i h1
        rw [if_neg h1] at hb
        split
        · rename_i h2
          rw [if_pos h2] at hb
          cases hb
        · rename_i h2
          rw [if_neg h2] at hb
          obtain ⟨ht, _⟩ := spanF_ok (s := s) (st := (a, false)) (by simpa using h2) (Nat.le_of_lt hl)
          refine partsL_ok s f _ _ _ ⟨h.1, fun t hm => ?_⟩ hb
          rcases List.mem_append.1 hm with hm | hm
          · exact h.2 t hm
          · simp at hm; subst hm; exact ht
/-- What a text says: the set, the error, and where it lies. -/
def parseF (s : List UInt8) : (List T3 × List S2) × Int × Nat :=
  if 3000 < s.length then (([], []), 2, 0)
  else if (partsN s [] [] 0).2.2.2 = true then (([], []), 7, (partsN s [] [] 0).2.2.1)
  else if 24 < (partsN s [] [] 0).1.length ∨ 40 < (partsN s [] [] 0).2.1.length then (([], []), 2, 0)
  else (((partsN s [] [] 0).1, (partsN s [] [] 0).2.1), 0, 0)
theorem allOk_nil : AllOk [] [] := ⟨fun _ h => (by cases h), fun _ h => (by cases h)⟩
end Go.Proofs.YtlhgpeelenelbaaDoor

/- Plain mathematics: the specification's way to read a number, and that the parts come out the same. -/
namespace Go.Proofs.YtlhgpeelenelbaaDoor

/-- Is a byte a digit? -/
def isDig (c : UInt8) : Bool := decide (48 ≤ c.toNat) && decide (c.toNat ≤ 57)
/-- The digits of a number, the specification's way: the number, where the reader stands, whether it has failed. -/
def numGL (s : List UInt8) (lo hi : Int) (b : Nat) : Nat → Int → Nat → Int × Nat × Bool
  | 0, n, a => (n, a, false)
  | f + 1, n, a =>
    match s[a]? with
    | none => (n, a, false)
    | some c =>
      if isDig c = true then
        if beginsB (n * 10 + ((c.toNat : Int) - 48)) lo hi = false ∨ (b < a ∧ n = 0) then (0, a, true) else numGL s lo hi b f (n * 10 + ((c.toNat : Int) - 48)) (a + 1)
      else (n, a, false)
def numG (s : List UInt8) (lo hi : Int) (st : Nat × Bool) : Int × Nat × Bool :=
  if st.2 = true then (0, st) else
    let r := numGL s lo hi st.1 (s.length - st.1) 0 st.1
    if r.2.2 = true ∨ r.2.1 = st.1 ∨ ¬ (lo ≤ r.1 ∧ r.1 ≤ hi) then (0, r.2.1, true) else (r.1, r.2.1, false)
theorem digB_eq (lo hi n : Int) (dg : Nat) (c : UInt8) : digB lo hi n dg c = (isDig c && !(decide (0 < dg) && decide (n = 0)) && beginsB (n * 10 + ((c.toNat : Int) - 48)) lo hi) := rfl
/-- Both ways, side by side. -/
theorem num_side (s : List UInt8) (lo hi : Int) (b : Nat) (hh : 0 ≤ hi) : ∀ (f : Nat) (n : Int) (dg a : Nat), a = b + dg → 0 ≤ n → n ≤ hi →
    (numGL s lo hi b f n a).2.1 = (digL s lo hi f n dg a).2.2 ∧ (digL s lo hi f n dg a).2.2 = b + (digL s lo hi f n dg a).2.1 ∧
    (((numGL s lo hi b f n a).2.2 = false ∧ (numGL s lo hi b f n a).1 = (digL s lo hi f n dg a).1) ∨
     ((numGL s lo hi b f n a).2.2 = true ∧ ∃ c, s[(digL s lo hi f n dg a).2.2]? = some c ∧ isDig c = true))
  | 0, n, dg, a, h, _, _ => ⟨rfl, h, .inl ⟨rfl, rfl⟩⟩
  | f + 1, n, dg, a, h, n0, n1 => by
    unfold numGL digL
    cases hc : s[a]? with
    | none => exact ⟨rfl, h, .inl ⟨rfl, rfl⟩⟩
    | some c =>
      simp only
      by_cases hd : isDig c = true
      · rw [if_pos hd]
        by_cases hf : beginsB (n * 10 + ((c.toNat : Int) - 48)) lo hi = false ∨ (b < a ∧ n = 0)
        · rw [if_pos hf]
          have e : digB lo hi n dg c = false := by
            rw [digB_eq]
            rcases hf with hf | ⟨h1, h2⟩
            · rw [hf]; simp
            · have : 0 < dg := by omega
              simp [this, h2]
          rw [e]
          exact ⟨rfl, h, .inr ⟨rfl, c, hc, hd⟩⟩
        · rw [if_neg hf]
          have hf' : beginsB (n * 10 + ((c.toNat : Int) - 48)) lo hi = true ∧ ¬ (b < a ∧ n = 0) := by
            refine ⟨?_, fun h => hf (.inr h)⟩
            cases e : beginsB (n * 10 + ((c.toNat : Int) - 48)) lo hi with
            | true => rfl
            | false => exact absurd (.inl e) hf
          have e : digB lo hi n dg c = true := by
            rw [digB_eq, hd, hf'.1]
            have : ¬ (0 < dg ∧ n = 0) := fun h' => hf'.2 ⟨by omega, h'.2⟩
            have h3 : dg = 0 ∨ ¬ n = 0 := by omega
            simpa using h3
          rw [if_pos e]
          obtain ⟨q1, q2⟩ := digB_le e
          exact num_side s lo hi b hh f _ (dg + 1) (a + 1) (by omega) (by omega) (by omega)
      · have e : digB lo hi n dg c = false := by rw [digB_eq]; simp [hd]
        rw [if_neg hd, e]
        exact ⟨rfl, h, .inl ⟨rfl, rfl⟩⟩
/-- Behind the word that follows, both stand at the same place. -/
theorem num_word (s : List UInt8) (lo hi : Int) (st : Nat × Bool) (c0 : UInt8) (w : List UInt8) (h0 : isDig c0 = false) (hh : st.2 = false → 0 ≤ hi) :
    wordF s (c0 :: w) (numG s lo hi st).2 = wordF s (c0 :: w) (numF s lo hi st).2 ∧ ((wordF s (c0 :: w) (numF s lo hi st).2).2 = false → (numG s lo hi st).1 = (numF s lo hi st).1) := by
  obtain ⟨a, b⟩ := st
  cases b with
  | true => exact ⟨rfl, fun _ => rfl⟩
  | false =>
    have hh := hh rfl
    obtain ⟨k1, k2, k3⟩ := num_side s lo hi a hh (s.length - a) 0 0 a rfl (Int.le_refl _) hh
    have eF : numF s lo hi (a, false) = ((digF s lo hi 0 0 a).1, (digF s lo hi 0 0 a).2.2, decide ((digF s lo hi 0 0 a).2.1 = 0) || decide ((digF s lo hi 0 0 a).1 < lo)) := rfl
    have bd := digL_bd s lo hi hi hh (Int.le_refl _) (s.length - a) 0 0 a (Int.le_refl _) hh
    have dF : digF s lo hi 0 0 a = digL s lo hi (s.length - a) 0 0 a := rfl
    have eG : numG s lo hi (a, false) = if (numGL s lo hi a (s.length - a) 0 a).2.2 = true ∨ (numGL s lo hi a (s.length - a) 0 a).2.1 = a ∨ ¬ (lo ≤ (numGL s lo hi a (s.length - a) 0 a).1 ∧ (numGL s lo hi a (s.length - a) 0 a).1 ≤ hi) then (0, (numGL s lo hi a (s.length - a) 0 a).2.1, true) else ((numGL s lo hi a (s.length - a) 0 a).1, (numGL s lo hi a (s.length - a) 0 a).2.1, false) := rfl
    rw [← dF] at k1 k2 k3 bd
    obtain ⟨⟨n, dg, e⟩, hn⟩ : ∃ q, digF s lo hi 0 0 a = q := ⟨_, rfl⟩
    obtain ⟨⟨n', e', b'⟩, hn'⟩ : ∃ q, numGL s lo hi a (s.length - a) 0 a = q := ⟨_, rfl⟩
    rw [hn] at k1 k2 k3 eF
    rw [hn'] at k1 k3 eG
    simp only at k1 k2 k3 eF eG
    subst k1
    rcases k3 with ⟨rfl, rfl⟩ | ⟨rfl, c, hc, hd⟩
    · have same : numG s lo hi (a, false) = numF s lo hi (a, false) ∨ ((numG s lo hi (a, false)).2 = (e', true) ∧ (numF s lo hi (a, false)).2 = (e', true)) := by
        rw [eG, eF]
        by_cases h1 : e' = a
        · right
          rw [if_pos (.inr (.inl h1))]
          have : dg = 0 := by omega
          simp [this]
        · by_cases h2 : n' < lo
          · right
            rw [if_pos (.inr (.inr (by omega)))]
            simp [h2]
          · left
            have hle : n' ≤ hi := by
              have hb := digL_bd s lo hi hi hh (Int.le_refl _) (s.length - a) 0 0 a (Int.le_refl _) hh
              by_cases hl : a ≤ s.length
              · have := (hb hl).2.1
                rw [← dF, hn] at this
                exact this
              · exfalso
                have : digF s lo hi 0 0 a = (0, 0, a) := digF_end (by omega)
                rw [hn] at this
                simp at this
                omega
            rw [if_neg (by simp; omega)]
            have h3 : ¬ dg = 0 := by omega
            simp [h3, h2]
      rcases same with h | ⟨h1, h2⟩
      · rw [h]; exact ⟨rfl, fun _ => rfl⟩
      · rw [h1, h2]
        exact ⟨rfl, fun h => by rw [wordF_bad] at h; cases h⟩
    · have eg : (numG s lo hi (a, false)).2 = (e', true) := by
        rw [eG, if_pos (.inl rfl)]
      have ef : wordF s (c0 :: w) (numF s lo hi (a, false)).2 = (e', true) := by
        rw [eF]
        have st1 : ∀ b : Bool, stepW s (e', b) c0 = (e', true) := fun b => by
          unfold stepW
          cases b with
          | true => rfl
          | false =>
            have : s[e']? ≠ some c0 := fun h => by
              rw [hc] at h
              cases h
              rw [h0] at hd; cases hd
            simp [this]
        show wordF s w (stepW s (e', _) c0) = _
        rw [st1, wordF_bad]
      rw [eg, ef, wordF_bad]
      exact ⟨rfl, fun h => by cases h⟩
/-- The part of a turn, the specification's way. -/
def turnG (s : List UInt8) (st : Nat × Bool) : (Int × Int × Int) × Nat × Bool :=
  let r1 := numG s 1 40320 (wordF s wEvery st)
  let r2 := numG s 0 (r1.1 - 1) (wordF s wFrom r1.2)
  let r3 := numG s 1 r1.1 (wordF s wFor r2.2)
  ((r1.1, r2.1, r3.1), wordF s wEnd r3.2)
def spanG (s : List UInt8) (st : Nat × Bool) : (Int × Int) × Nat × Bool :=
  let r1 := numG s 0 1048576 (wordF s wBetween st)
  let r2 := numG s r1.1 1048576 (wordF s wAnd r1.2)
  ((r1.1, r2.1), wordF s wEnd r2.2)
theorem numG_bad (s : List UInt8) (lo hi : Int) (a : Nat) : numG s lo hi (a, true) = (0, a, true) := rfl
theorem numF_bad (s : List UInt8) (lo hi : Int) (a : Nat) : numF s lo hi (a, true) = (0, a, true) := rfl
theorem turn_same (s : List UInt8) (st : Nat × Bool) (hs : st.1 ≤ s.length) : (turnG s st).2 = (turnF s st).2 ∧ ((turnF s st).2.2 = false → (turnG s st).1 = (turnF s st).1) := by
  have a1 := wordF_le s wEvery st hs
  obtain ⟨s1, hs1⟩ : ∃ q, wordF s wEvery st = q := ⟨_, rfl⟩
  rw [hs1] at a1
  obtain ⟨⟨p, s2⟩, hs2⟩ : ∃ q, numF s 1 40320 s1 = q := ⟨_, rfl⟩
  obtain ⟨⟨p', s2'⟩, hs2'⟩ : ∃ q, numG s 1 40320 s1 = q := ⟨_, rfl⟩
  have k1 : wordF s wFrom s2' = wordF s wFrom s2 ∧ ((wordF s wFrom s2).2 = false → p' = p) := by
    have := num_word s 1 40320 s1 32 [102, 114, 111, 109, 32] (by decide) (fun _ => by omega)
    rw [hs2, hs2'] at this
    exact this
  have b2 := numF_bd s 1 40320 40320 s1 (by omega) (by omega) a1.1
  rw [hs2] at b2
  simp only at b2
  have a3 := wordF_le s wFrom s2 b2.2.2.2
  obtain ⟨⟨e3, f3⟩, hs3⟩ : ∃ q, wordF s wFrom s2 = q := ⟨_, rfl⟩
  rw [hs3] at k1 a3
  cases f3 with
  | true =>
    have eG : turnG s st = ((p', 0, 0), (e3, true)) := by
      simp only [turnG, hs1, hs2', k1.1, numG_bad, wordF_bad]
    have eF : turnF s st = ((p, 0, 0), (e3, true)) := by
      simp only [turnF, hs1, hs2, hs3, numF_bad, wordF_bad]
    rw [eG, eF]
    exact ⟨rfl, fun h => by cases h⟩
  | false =>
    obtain rfl := k1.2 rfl
    obtain ⟨k2, _⟩ := wordF_ok s wFrom s2 (by rw [hs3])
    have hp : 1 ≤ p' := by
      have := numF_ok (s := s) (lo := 1) (hi := 40320) (st := s1) (by rw [hs2]; exact k2) a1.1 (by omega)
      rw [hs2] at this
      exact this.2.1
    obtain ⟨⟨f, s4⟩, hs4⟩ : ∃ q, numF s 0 (p' - 1) (e3, false) = q := ⟨_, rfl⟩
    obtain ⟨⟨f', s4'⟩, hs4'⟩ : ∃ q, numG s 0 (p' - 1) (e3, false) = q := ⟨_, rfl⟩
    have k3 : wordF s wFor s4' = wordF s wFor s4 ∧ ((wordF s wFor s4).2 = false → f' = f) := by
      have := num_word s 0 (p' - 1) (e3, false) 32 [102, 111, 114, 32] (by decide) (fun _ => by omega)
      rw [hs4, hs4'] at this
      exact this
    obtain ⟨⟨e5, f5⟩, hs5⟩ : ∃ q, wordF s wFor s4 = q := ⟨_, rfl⟩
    rw [hs5] at k3
    cases f5 with
    | true =>
      have eG : turnG s st = ((p', f', 0), (e5, true)) := by
        simp only [turnG, hs1, hs2', k1.1, hs4', k3.1, numG_bad, wordF_bad]
      have eF : turnF s st = ((p', f, 0), (e5, true)) := by
        simp only [turnF, hs1, hs2, hs3, hs4, hs5, numF_bad, wordF_bad]
      rw [eG, eF]
      exact ⟨rfl, fun h => by cases h⟩
    | false =>
      obtain rfl := k3.2 rfl
      obtain ⟨⟨l, s6⟩, hs6⟩ : ∃ q, numF s 1 p' (e5, false) = q := ⟨_, rfl⟩
      obtain ⟨⟨l', s6'⟩, hs6'⟩ : ∃ q, numG s 1 p' (e5, false) = q := ⟨_, rfl⟩
      have k5 : wordF s wEnd s6' = wordF s wEnd s6 ∧ ((wordF s wEnd s6).2 = false → l' = l) := by
        have := num_word s 1 p' (e5, false) 59 [10] (by decide) (fun _ => by omega)
        rw [hs6, hs6'] at this
        exact this
      have eG : turnG s st = ((p', f', l'), wordF s wEnd s6) := by
        simp only [turnG, hs1, hs2', k1.1, hs4', k3.1, hs6', k5.1]
      have eF : turnF s st = ((p', f', l), wordF s wEnd s6) := by
        simp only [turnF, hs1, hs2, hs3, hs4, hs5, hs6]
      rw [eG, eF]
      exact ⟨rfl, fun h => by simp only at h ⊢; rw [k5.2 h]⟩
theorem span_same (s : List UInt8) (st : Nat × Bool) (hs : st.1 ≤ s.length) : (spanG s st).2 = (spanF s st).2 ∧ ((spanF s st).2.2 = false → (spanG s st).1 = (spanF s st).1) := by
  have a1 := wordF_le s wBetween st hs
  obtain ⟨s1, hs1⟩ : ∃ q, wordF s wBetween st = q := ⟨_, rfl⟩
  rw [hs1] at a1
  obtain ⟨⟨p, s2⟩, hs2⟩ : ∃ q, numF s 0 1048576 s1 = q := ⟨_, rfl⟩
  obtain ⟨⟨p', s2'⟩, hs2'⟩ : ∃ q, numG s 0 1048576 s1 = q := ⟨_, rfl⟩
  have k1 : wordF s wAnd s2' = wordF s wAnd s2 ∧ ((wordF s wAnd s2).2 = false → p' = p) := by
    have := num_word s 0 1048576 s1 32 [97, 110, 100, 32] (by decide) (fun _ => by omega)
    rw [hs2, hs2'] at this
    exact this
  obtain ⟨⟨e3, f3⟩, hs3⟩ : ∃ q, wordF s wAnd s2 = q := ⟨_, rfl⟩
  rw [hs3] at k1
  cases f3 with
  | true =>
    have eG : spanG s st = ((p', 0), (e3, true)) := by
      simp only [spanG, hs1, hs2', k1.1, numG_bad, wordF_bad]
    have eF : spanF s st = ((p, 0), (e3, true)) := by
      simp only [spanF, hs1, hs2, hs3, numF_bad, wordF_bad]
    rw [eG, eF]
    exact ⟨rfl, fun h => by cases h⟩
  | false =>
    obtain rfl := k1.2 rfl
    obtain ⟨⟨l, s6⟩, hs6⟩ : ∃ q, numF s p' 1048576 (e3, false) = q := ⟨_, rfl⟩
    obtain ⟨⟨l', s6'⟩, hs6'⟩ : ∃ q, numG s p' 1048576 (e3, false) = q := ⟨_, rfl⟩
    have k5 : wordF s wEnd s6' = wordF s wEnd s6 ∧ ((wordF s wEnd s6).2 = false → l' = l) := by
      have := num_word s p' 1048576 (e3, false) 59 [10] (by decide) (fun _ => by omega)
      rw [hs6, hs6'] at this
      exact this
    have eG : spanG s st = ((p', l'), wordF s wEnd s6) := by
      simp only [spanG, hs1, hs2', k1.1, hs6', k5.1]
    have eF : spanF s st = ((p', l), wordF s wEnd s6) := by
      simp only [spanF, hs1, hs2, hs3, hs6]
    rw [eG, eF]
    exact ⟨rfl, fun h => by simp only at h ⊢; rw [k5.2 h]⟩
end Go.Proofs.YtlhgpeelenelbaaDoor

/- Plain mathematics: what is printed is read back, what is read is printed so, and where a text stops to be one. -/
namespace Go.Proofs.YtlhgpeelenelbaaDoor

theorem drop_head {s t : List UInt8} {a : Nat} {c : UInt8} (h : s.drop a = c :: t) : s[a]? = some c ∧ s.drop (a + 1) = t ∧ a < s.length := by
  have h1 : (s.drop a)[0]? = some c := by rw [h]; rfl
  rw [List.getElem?_drop, Nat.add_zero] at h1
  have hl := (List.getElem?_eq_some_iff.1 h1).1
  refine ⟨h1, ?_, hl⟩
  rw [List.drop_eq_getElem_cons hl] at h
  exact (List.cons.inj h).2
theorem drop_of {s : List UInt8} {a : Nat} {c : UInt8} (h : s[a]? = some c) : s.drop a = c :: s.drop (a + 1) := by
  obtain ⟨hl, rfl⟩ := List.getElem?_eq_some_iff.1 h
  exact List.drop_eq_getElem_cons hl

/-! Where a text is cut off. -/
theorem wordF_take {s : List UInt8} {L : Nat} : ∀ (w : List UInt8) (st : Nat × Bool), (wordF s w st).1 ≤ L → st.1 ≤ s.length → wordF (s.take L) w st = wordF s w st
  | [], _, _, _ => rfl
  | c :: w, st, h, hs => by
    have e : wordF s (c :: w) st = wordF s w (stepW s st c) := rfl
    have e' : wordF (s.take L) (c :: w) st = wordF (s.take L) w (stepW (s.take L) st c) := rfl
    rw [e] at h
    have hle : (stepW s st c).1 ≤ s.length ∧ st.1 ≤ (stepW s st c).1 := wordF_le s [c] st hs
    have h2 := (wordF_le s w (stepW s st c) hle.1).2
    have same : stepW (s.take L) st c = stepW s st c := by
      obtain ⟨a, b⟩ := st
      by_cases ha : a < L
      · unfold stepW
        simp only
        rw [List.getElem?_take_of_lt ha]
      · simp only at hle
        have haL : a = L := by omega
        cases b with
        | true => rfl
        | false =>
          have n1 : (s.take L)[a]? = none := List.getElem?_eq_none (by rw [List.length_take]; omega)
          by_cases hc : s[a]? = some c
          · exfalso
            have : stepW s (a, false) c = (a + 1, false) := by unfold stepW; simp [hc]
            rw [this] at h2 h
            simp only at h2 h
            omega
          · unfold stepW
            simp [n1, hc]
    rw [e, e', same]
    exact wordF_take w _ h hle.1
theorem digL_fuel (s : List UInt8) (lo hi : Int) : ∀ (f g : Nat) (n : Int) (dg a : Nat), s.length - a ≤ f → s.length - a ≤ g → digL s lo hi f n dg a = digL s lo hi g n dg a
  | 0, 0, _, _, _, _, _ => rfl
  | 0, g + 1, n, dg, a, hf, _ => by
    unfold digL
    rw [List.getElem?_eq_none (by omega)]
  | f + 1, 0, n, dg, a, _, hg => by
    unfold digL
    rw [List.getElem?_eq_none (by omega)]
  | f + 1, g + 1, n, dg, a, hf, hg => by
    unfold digL
    cases hc : s[a]? with
    | none => rfl
    | some c =>
      simp only
      split
      · exact digL_fuel s lo hi f g _ _ _ (by omega) (by omega)
      · rfl
theorem digL_ge (s : List UInt8) (lo hi : Int) : ∀ (f : Nat) (n : Int) (dg a : Nat), a ≤ (digL s lo hi f n dg a).2.2
  | 0, _, _, _ => Nat.le_refl _
  | f + 1, n, dg, a => by
    unfold digL
    cases hc : s[a]? with
    | none => exact Nat.le_refl _
    | some c =>
      simp only
      split
      · exact Nat.le_trans (Nat.le_succ a) (digL_ge s lo hi f _ _ _)
      · exact Nat.le_refl _
theorem digL_take {s : List UInt8} {L : Nat} (lo hi : Int) : ∀ (f : Nat) (n : Int) (dg a : Nat), (digL s lo hi f n dg a).2.2 ≤ L → digL (s.take L) lo hi f n dg a = digL s lo hi f n dg a
  | 0, _, _, _, _ => rfl
  | f + 1, n, dg, a, h => by
    have hge := digL_ge s lo hi (f + 1) n dg a
    by_cases ha : a < L
    · unfold digL at h ⊢
      rw [List.getElem?_take_of_lt ha]
      cases hc : s[a]? with
      | none => rfl
      | some c =>
        rw [hc] at h
        simp only at h ⊢
        split
        · rename_i hd
          rw [if_pos hd] at h
          exact digL_take lo hi f _ _ _ h
        · rfl
    · have haL : a = L := by omega
      have n1 : (s.take L)[a]? = none := List.getElem?_eq_none (by rw [List.length_take]; omega)
      unfold digL at h ⊢
      rw [n1]
      cases hc : s[a]? with
      | none => rfl
      | some c =>
        rw [hc] at h
        simp only at h ⊢
        split
        · rename_i hd
          rw [if_pos hd] at h
          have := digL_ge s lo hi f (n * 10 + ((c.toNat : Int) - 48)) (dg + 1) (a + 1)
          omega
        · rfl
theorem numF_take {s : List UInt8} {L : Nat} {lo hi : Int} {st : Nat × Bool} (h : (numF s lo hi st).2.1 ≤ L) : numF (s.take L) lo hi st = numF s lo hi st := by
  obtain ⟨a, b⟩ := st
  cases b with
  | true => rfl
  | false =>
    have e : ∀ s, numF s lo hi (a, false) = ((digF s lo hi 0 0 a).1, (digF s lo hi 0 0 a).2.2, decide ((digF s lo hi 0 0 a).2.1 = 0) || decide ((digF s lo hi 0 0 a).1 < lo)) := fun _ => rfl
    rw [e] at h
    have : digF (s.take L) lo hi 0 0 a = digF s lo hi 0 0 a := by
      unfold digF at h ⊢
      rw [digL_fuel (s.take L) lo hi _ (s.length - a) 0 0 a (Nat.le_refl _) (by rw [List.length_take]; omega)]
      exact digL_take lo hi _ _ _ _ h
    rw [e, e, this]
theorem turnF_take {s : List UInt8} {L : Nat} {st : Nat × Bool} (h : (turnF s st).2.1 ≤ L) (hs : st.1 ≤ s.length) : turnF (s.take L) st = turnF s st := by
  obtain ⟨s1, hs1⟩ : ∃ q, wordF s wEvery st = q := ⟨_, rfl⟩
  obtain ⟨⟨p, s2⟩, hs2⟩ : ∃ q, numF s 1 40320 s1 = q := ⟨_, rfl⟩
  obtain ⟨s3, hs3⟩ : ∃ q, wordF s wFrom s2 = q := ⟨_, rfl⟩
  obtain ⟨⟨f, s4⟩, hs4⟩ : ∃ q, numF s 0 (p - 1) s3 = q := ⟨_, rfl⟩
  obtain ⟨s5, hs5⟩ : ∃ q, wordF s wFor s4 = q := ⟨_, rfl⟩
  obtain ⟨⟨l, s6⟩, hs6⟩ : ∃ q, numF s 1 p s5 = q := ⟨_, rfl⟩
  obtain ⟨s7, hs7⟩ : ∃ q, wordF s wEnd s6 = q := ⟨_, rfl⟩
  have hres : turnF s st = ((p, f, l), s7) := by
    simp only [turnF, hs1, hs2, hs3, hs4, hs5, hs6, hs7]
  rw [hres] at h ⊢
  simp only at h
  have a1 := wordF_le s wEvery st hs
  rw [hs1] at a1
  have a2 := numF_bd s 1 40320 40320 s1 (by omega) (by omega) a1.1
  rw [hs2] at a2
  simp only at a2
  have a3 := wordF_le s wFrom s2 a2.2.2.2
  rw [hs3] at a3
  have a4 := numF_bd s 0 (p - 1) 40320 s3 (by omega) (by omega) a3.1
  rw [hs4] at a4
  simp only at a4
  have a5 := wordF_le s wFor s4 a4.2.2.2
  rw [hs5] at a5
  have a6 := numF_bd s 1 p 40320 s5 (by omega) (by omega) a5.1
  rw [hs6] at a6
  simp only at a6
  have a7 := wordF_le s wEnd s6 a6.2.2.2
  rw [hs7] at a7
  have e1 := wordF_take (L := L) wEvery st (by rw [hs1]; omega) hs
  have e2 := numF_take (s := s) (L := L) (lo := 1) (hi := 40320) (st := s1) (by rw [hs2]; simp only; omega)
  have e3 := wordF_take (L := L) wFrom s2 (by rw [hs3]; omega) a2.2.2.2
  have e4 := numF_take (s := s) (L := L) (lo := 0) (hi := p - 1) (st := s3) (by rw [hs4]; simp only; omega)
  have e5 := wordF_take (L := L) wFor s4 (by rw [hs5]; omega) a4.2.2.2
  have e6 := numF_take (s := s) (L := L) (lo := 1) (hi := p) (st := s5) (by rw [hs6]; simp only; omega)
  have e7 := wordF_take (L := L) wEnd s6 (by rw [hs7]; omega) a6.2.2.2
  simp only [turnF, e1, hs1, e2, hs2, e3, hs3, e4, hs4, e5, hs5, e6, hs6, e7, hs7]
theorem spanF_take {s : List UInt8} {L : Nat} {st : Nat × Bool} (h : (spanF s st).2.1 ≤ L) (hs : st.1 ≤ s.length) : spanF (s.take L) st = spanF s st := by
  obtain ⟨s1, hs1⟩ : ∃ q, wordF s wBetween st = q := ⟨_, rfl⟩
  obtain ⟨⟨p, s2⟩, hs2⟩ : ∃ q, numF s 0 1048576 s1 = q := ⟨_, rfl⟩
  obtain ⟨s3, hs3⟩ : ∃ q, wordF s wAnd s2 = q := ⟨_, rfl⟩
  obtain ⟨⟨f, s4⟩, hs4⟩ : ∃ q, numF s p 1048576 s3 = q := ⟨_, rfl⟩
  obtain ⟨s7, hs7⟩ : ∃ q, wordF s wEnd s4 = q := ⟨_, rfl⟩
  have hres : spanF s st = ((p, f), s7) := by
    simp only [spanF, hs1, hs2, hs3, hs4, hs7]
  rw [hres] at h ⊢
  simp only at h
  have a1 := wordF_le s wBetween st hs
  rw [hs1] at a1
  have a2 := numF_bd s 0 1048576 1048576 s1 (by omega) (by omega) a1.1
  rw [hs2] at a2
  simp only at a2
  have a3 := wordF_le s wAnd s2 a2.2.2.2
  rw [hs3] at a3
  have a4 := numF_bd s p 1048576 1048576 s3 (by omega) (by omega) a3.1
  rw [hs4] at a4
  simp only at a4
  have a7 := wordF_le s wEnd s4 a4.2.2.2
  rw [hs7] at a7
  have e1 := wordF_take (L := L) wBetween st (by rw [hs1]; omega) hs
  have e2 := numF_take (s := s) (L := L) (lo := 0) (hi := 1048576) (st := s1) (by rw [hs2]; simp only; omega)
  have e3 := wordF_take (L := L) wAnd s2 (by rw [hs3]; omega) a2.2.2.2
  have e4 := numF_take (s := s) (L := L) (lo := p) (hi := 1048576) (st := s3) (by rw [hs4]; simp only; omega)
  have e7 := wordF_take (L := L) wEnd s4 (by rw [hs7]; omega) a4.2.2.2
  simp only [spanF, e1, hs1, e2, hs2, e3, hs3, e4, hs4, e7, hs7]
theorem turnF_le {s : List UInt8} {st : Nat × Bool} (hs : st.1 ≤ s.length) : st.1 ≤ (turnF s st).2.1 ∧ (turnF s st).2.1 ≤ s.length := by
  have a1 := wordF_le s wEvery st hs
  have a2 := numF_bd s 1 40320 40320 _ (by omega) (by omega) a1.1
  have a3 := wordF_le s wFrom (numF s 1 40320 (wordF s wEvery st)).2 a2.2.2.2
  have a4 := numF_bd s 0 ((numF s 1 40320 (wordF s wEvery st)).1 - 1) 40320 _ (by omega) (by omega) a3.1
  have a5 := wordF_le s wFor (numF s 0 ((numF s 1 40320 (wordF s wEvery st)).1 - 1) (wordF s wFrom (numF s 1 40320 (wordF s wEvery st)).2)).2 a4.2.2.2
  have a6 := numF_bd s 1 (numF s 1 40320 (wordF s wEvery st)).1 40320 _ (by omega) (by omega) a5.1
  have a7 := wordF_le s wEnd (numF s 1 (numF s 1 40320 (wordF s wEvery st)).1 (wordF s wFor (numF s 0 ((numF s 1 40320 (wordF s wEvery st)).1 - 1) (wordF s wFrom (numF s 1 40320 (wordF s wEvery st)).2)).2)).2 a6.2.2.2
  exact ⟨by show st.1 ≤ (wordF s wEnd _).1; omega, a7.1⟩
theorem spanF_le {s : List UInt8} {st : Nat × Bool} (hs : st.1 ≤ s.length) : st.1 ≤ (spanF s st).2.1 ∧ (spanF s st).2.1 ≤ s.length := by
  have a1 := wordF_le s wBetween st hs
  have a2 := numF_bd s 0 1048576 1048576 _ (by omega) (by omega) a1.1
  have a3 := wordF_le s wAnd (numF s 0 1048576 (wordF s wBetween st)).2 a2.2.2.2
  have a4 := numF_bd s (numF s 0 1048576 (wordF s wBetween st)).1 1048576 1048576 _ (by omega) (by omega) a3.1
  have a7 := wordF_le s wEnd (numF s (numF s 0 1048576 (wordF s wBetween st)).1 1048576 (wordF s wAnd (numF s 0 1048576 (wordF s wBetween st)).2)).2 a4.2.2.2
  exact ⟨by show st.1 ≤ (wordF s wEnd _).1; omega, a7.1⟩
theorem partsL_le (s : List UInt8) : ∀ (f : Nat) (ts : List T3) (ss : List S2) (a : Nat), a ≤ s.length → a ≤ (partsL s f ts ss a).2.2.1 ∧ (partsL s f ts ss a).2.2.1 ≤ s.length
  | 0, _, _, _, h => ⟨Nat.le_refl _, h⟩
  | f + 1, ts, ss, a, h => by
    unfold partsL
    cases hc : s[a]? with
    | none => exact ⟨Nat.le_refl _, h⟩
    | some c =>
      have ht := turnF_le (s := s) (st := (a, false)) h
      have hp := spanF_le (s := s) (st := (a, false)) h
      simp only at ht hp ⊢
      split
      · split
        · exact ht
        · have := partsL_le s f (ts ++ [(turnF s (a, false)).1]) ss _ ht.2
          exact ⟨by omega, this.2⟩
      · split
        · exact hp
        · have := partsL_le s f ts (ss ++ [(spanF s (a, false)).1]) _ hp.2
          exact ⟨by omega, this.2⟩
/-- A text that is cut off where it fails does not fail, or fails there too. -/
theorem partsL_take {s : List UInt8} {L : Nat} : ∀ (f : Nat) (ts : List T3) (ss : List S2) (a : Nat), a ≤ s.length → (partsL s f ts ss a).2.2 = (L, true) →
    (partsL (s.take L) f ts ss a).2.2.2 = false ∨ (partsL (s.take L) f ts ss a).2.2 = (L, true)
  | 0, _, _, _, _, h => by cases h
  | f + 1, ts, ss, a, hs, h => by
    have hge := (partsL_le s (f + 1) ts ss a hs).1
    rw [h] at hge
    simp only at hge
    by_cases ha : a < L
    · unfold partsL at h ⊢
      rw [List.getElem?_take_of_lt ha]
      cases hc : s[a]? with
      | none => rw [hc] at h; cases h
      | some c =>
        rw [hc] at h
        have ht := turnF_le (s := s) (st := (a, false)) hs
        have hp := spanF_le (s := s) (st := (a, false)) hs
        simp only at h ht hp ⊢
        by_cases h1 : c.toNat = 101 ∧ ss.length = 0
        · rw [if_pos h1] at h ⊢
          by_cases h2 : (turnF s (a, false)).2.2 = true
          · rw [if_pos h2] at h
            simp only [Prod.mk.injEq, and_true] at h
            have e := turnF_take (s := s) (L := L) (st := (a, false)) (by omega) hs
            rw [e, if_pos h2]
            right
            simp [h]
          · rw [if_neg h2] at h
            have hl := (partsL_le s f (ts ++ [(turnF s (a, false)).1]) ss _ ht.2).1
            rw [h] at hl
            have e := turnF_take (s := s) (L := L) (st := (a, false)) hl hs
            rw [e, if_neg h2]
            exact partsL_take f _ _ _ ht.2 h
        · rw [if_neg h1] at h ⊢
          by_cases h2 : (spanF s (a, false)).2.2 = true
          · rw [if_pos h2] at h
            simp only [Prod.mk.injEq, and_true] at h
            have e := spanF_take (s := s) (L := L) (st := (a, false)) (by omega) hs
            rw [e, if_pos h2]
            right
            simp [h]
          · rw [if_neg h2] at h
            have hl := (partsL_le s f ts (ss ++ [(spanF s (a, false)).1]) _ hp.2).1
            rw [h] at hl
            have e := spanF_take (s := s) (L := L) (st := (a, false)) hl hs
            rw [e, if_neg h2]
            exact partsL_take f _ _ _ hp.2 h
    · left
      have n1 : (s.take L)[a]? = none := List.getElem?_eq_none (by rw [List.length_take]; omega)
      unfold partsL
      rw [n1]
theorem parse_place {s : List UInt8} {q : List T3 × List S2} {L : Nat} (h : parseF s = (q, 7, L)) : L ≤ s.length ∧ ((parseF (s.take L)).2.1 = 7 → (parseF (s.take L)).2.2 = L) := by
  unfold parseF at h
  split at h
  · cases h
  · rename_i h0
    split at h
    · rename_i h1
      obtain ⟨-, h2⟩ : _ ∧ (partsN s [] [] 0).2.2.1 = L := by simpa using h
      have hN : (partsL s s.length [] [] 0).2.2 = (L, true) := by
        have e : partsN s [] [] 0 = partsL s s.length [] [] 0 := rfl
        rw [← e, ← h2, ← h1]
      have hle := partsL_le s s.length [] [] 0 (Nat.zero_le _)
      rw [hN] at hle
      refine ⟨hle.2, fun h7 => ?_⟩
      have ht := partsL_take (s := s) (L := L) s.length [] [] 0 (Nat.zero_le _) hN
      have e2 : partsN (s.take L) [] [] 0 = partsL (s.take L) s.length [] [] 0 := partsL_fuel _ _ _ _ _ _ (Nat.le_refl _) (by rw [List.length_take]; omega)
      unfold parseF at h7 ⊢
      rw [e2] at h7 ⊢
      have hlen : ¬ 3000 < (s.take L).length := by rw [List.length_take]; omega
      rw [if_neg hlen] at h7 ⊢
      rcases ht with ht | ht
      · rw [ht] at h7
        simp only [Bool.false_eq_true, if_false] at h7
        split at h7 <;> cases h7
      · rw [ht]
        simp
    · split at h <;> cases h

/-! What is read is printed so. -/
theorem u8_of {i : Nat} (h : i < 10) : (UInt8.ofNat (48 + i)).toNat = 48 + i := by
  rw [UInt8.toNat_ofNat']
  omega
theorem itoa_more {n : Int} {c : UInt8} (hn : 1 ≤ n) (hc : isDig c = true) : Lib.itoa (n * 10 + ((c.toNat : Int) - 48)) = Lib.itoa n ++ [c] := by
  unfold isDig at hc
  simp only [Bool.and_eq_true, decide_eq_true_eq] at hc
  obtain ⟨u, rfl⟩ : ∃ u : Nat, n = u := ⟨n.toNat, by omega⟩
  obtain ⟨d, hd⟩ : ∃ d, c.toNat = 48 + d := ⟨c.toNat - 48, by omega⟩
  rw [show (u : Int) * 10 + ((c.toNat : Int) - 48) = ((u * 10 + d : Nat) : Int) by omega, Lib.itoa_nonneg, Lib.itoa_nonneg]
  conv => lhs; rw [Lib.decDigits]
  rw [dif_neg (by omega), show (u * 10 + d) / 10 = u by omega, show (u * 10 + d) % 10 = d by omega, ← hd, UInt8.ofNat_toNat]
theorem itoa_one {c : UInt8} (hc : isDig c = true) : Lib.itoa ((c.toNat : Int) - 48) = [c] := by
  unfold isDig at hc
  simp only [Bool.and_eq_true, decide_eq_true_eq] at hc
  obtain ⟨d, hd⟩ : ∃ d, c.toNat = 48 + d := ⟨c.toNat - 48, by omega⟩
  rw [show (c.toNat : Int) - 48 = (d : Int) by omega, Lib.itoa_nonneg, Lib.decDigits_one (by omega), ← hd, UInt8.ofNat_toNat]
theorem digB_dig {lo hi n : Int} {dg : Nat} {c : UInt8} (h : digB lo hi n dg c = true) : isDig c = true ∧ ¬ (0 < dg ∧ n = 0) ∧ beginsB (n * 10 + ((c.toNat : Int) - 48)) lo hi = true := by
  rw [digB_eq] at h
  simp only [Bool.and_eq_true, Bool.not_eq_true', Bool.and_eq_false_imp, decide_eq_true_eq, decide_eq_false_iff_not] at h
  exact ⟨h.1.1, fun k => h.1.2 k.1 k.2, h.2⟩
theorem digL_text {s : List UInt8} {lo hi : Int} : ∀ (f : Nat) (n : Int) (dg a : Nat), 1 ≤ n → Lib.itoa n ++ s.drop a = Lib.itoa (digL s lo hi f n dg a).1 ++ s.drop (digL s lo hi f n dg a).2.2
  | 0, _, _, _, _ => rfl
  | f + 1, n, dg, a, hn => by
    unfold digL
    cases hc : s[a]? with
    | none => rfl
    | some c =>
      simp only
      split
      · rename_i hd
        obtain ⟨h1, _, _⟩ := digB_dig hd
        have h2 := h1
        unfold isDig at h2
        simp only [Bool.and_eq_true, decide_eq_true_eq] at h2
        rw [← digL_text f _ (dg + 1) (a + 1) (by omega), itoa_more hn h1, drop_of hc]
        simp
      · rfl
theorem numF_text {s : List UInt8} {lo hi n : Int} {a e : Nat} (h : numF s lo hi (a, false) = (n, e, false)) : s.drop a = Lib.itoa n ++ s.drop e := by
  have hF : numF s lo hi (a, false) = ((digF s lo hi 0 0 a).1, (digF s lo hi 0 0 a).2.2, decide ((digF s lo hi 0 0 a).2.1 = 0) || decide ((digF s lo hi 0 0 a).1 < lo)) := rfl
  rw [hF] at h
  simp only [Prod.mk.injEq, Bool.or_eq_false_iff, decide_eq_false_iff_not] at h
  obtain ⟨h1, h2, h3, h4⟩ := h
  cases hc : s[a]? with
  | none =>
    have : digF s lo hi 0 0 a = (0, 0, a) := digF_end (by
      rcases Nat.lt_or_ge a s.length with k | k
      · rw [List.getElem?_eq_getElem k] at hc; cases hc
      · exact k)
    rw [this] at h3
    exact absurd rfl h3
  | some c =>
    by_cases hd : digB lo hi 0 0 c = true
    · rw [digF_go hc hd] at h1 h2
      obtain ⟨k1, _, _⟩ := digB_dig hd
      have k2 := k1
      unfold isDig at k2
      simp only [Bool.and_eq_true, decide_eq_true_eq] at k2
      rw [show (0 : Int) * 10 + ((c.toNat : Int) - 48) = (c.toNat : Int) - 48 by omega] at h1 h2
      by_cases h0 : (c.toNat : Int) - 48 = 0
      · have stop : digF s lo hi ((c.toNat : Int) - 48) (0 + 1) (a + 1) = ((c.toNat : Int) - 48, 0 + 1, a + 1) := by
          cases hc2 : s[a + 1]? with
          | none => exact digF_end (by
              rcases Nat.lt_or_ge (a + 1) s.length with k | k
              · rw [List.getElem?_eq_getElem k] at hc2; cases hc2
              · exact k)
          | some c2 =>
            refine digF_no hc2 ?_
            rw [digB_eq, h0]
            simp
        rw [stop] at h1 h2
        simp only at h1 h2
        subst h1 h2
        rw [itoa_one k1, drop_of hc]
        rfl
      · have := digL_text (s := s) (lo := lo) (hi := hi) (s.length - (a + 1)) ((c.toNat : Int) - 48) (0 + 1) (a + 1) (by omega)
        have e : digF s lo hi ((c.toNat : Int) - 48) (0 + 1) (a + 1) = digL s lo hi (s.length - (a + 1)) ((c.toNat : Int) - 48) (0 + 1) (a + 1) := rfl
        rw [← e, h1, h2, itoa_one k1] at this
        rw [drop_of hc]
        exact this
    · have : digF s lo hi 0 0 a = (0, 0, a) := digF_no hc (by simpa using hd)
      rw [this] at h3
      exact absurd rfl h3
theorem wordF_text {s : List UInt8} : ∀ (w : List UInt8) (a e : Nat), wordF s w (a, false) = (e, false) → s.drop a = w ++ s.drop e
  | [], a, e, h => by
    cases h; rfl
  | c :: w, a, e, h => by
    have h' : wordF s w (stepW s (a, false) c) = (e, false) := h
    have hb : (stepW s (a, false) c).2 = false := (wordF_ok s w _ (by rw [h'])).1
    have hc : s[a]? = some c := by
      unfold stepW at hb
      by_cases hc : s[a]? = some c
      · exact hc
      · simp [hc] at hb
    have hs : stepW s (a, false) c = (a + 1, false) := by unfold stepW; simp [hc]
    rw [hs] at h'
    rw [drop_of hc, wordF_text w (a + 1) e h']
    rfl
theorem turnF_text {s : List UInt8} {t : T3} {a e : Nat} (h : turnF s (a, false) = (t, e, false)) : s.drop a = textT t ++ s.drop e := by
  obtain ⟨⟨e1, b1⟩, hs1⟩ : ∃ q, wordF s wEvery (a, false) = q := ⟨_, rfl⟩
  obtain ⟨⟨p, e2, b2⟩, hs2⟩ : ∃ q, numF s 1 40320 (e1, b1) = q := ⟨_, rfl⟩
  obtain ⟨⟨e3, b3⟩, hs3⟩ : ∃ q, wordF s wFrom (e2, b2) = q := ⟨_, rfl⟩
  obtain ⟨⟨f, e4, b4⟩, hs4⟩ : ∃ q, numF s 0 (p - 1) (e3, b3) = q := ⟨_, rfl⟩
  obtain ⟨⟨e5, b5⟩, hs5⟩ : ∃ q, wordF s wFor (e4, b4) = q := ⟨_, rfl⟩
  obtain ⟨⟨l, e6, b6⟩, hs6⟩ : ∃ q, numF s 1 p (e5, b5) = q := ⟨_, rfl⟩
  obtain ⟨⟨e7, b7⟩, hs7⟩ : ∃ q, wordF s wEnd (e6, b6) = q := ⟨_, rfl⟩
  have hres : turnF s (a, false) = ((p, f, l), e7, b7) := by
    simp only [turnF, hs1, hs2, hs3, hs4, hs5, hs6, hs7]
  rw [hres] at h
  simp only [Prod.mk.injEq] at h
  obtain ⟨rfl, rfl, rfl⟩ := h
  have nb : ∀ {lo hi : Int} {e : Nat} {n : Int} {e' : Nat} {b : Bool}, numF s lo hi (e, b) = (n, e', false) → b = false := by
    intro lo hi e n e' b h
    cases b with
    | false => rfl
    | true => cases h
  obtain rfl : b6 = false := (wordF_ok s wEnd _ (by rw [hs7])).1
  obtain rfl := nb hs6
  obtain rfl : b4 = false := (wordF_ok s wFor _ (by rw [hs5])).1
  obtain rfl := nb hs4
  obtain rfl : b2 = false := (wordF_ok s wFrom _ (by rw [hs3])).1
  obtain rfl := nb hs2
  rw [wordF_text _ _ _ hs1, numF_text hs2, wordF_text _ _ _ hs3, numF_text hs4, wordF_text _ _ _ hs5, numF_text hs6, wordF_text _ _ _ hs7]
  simp [textT]
theorem spanF_text {s : List UInt8} {x : S2} {a e : Nat} (h : spanF s (a, false) = (x, e, false)) : s.drop a = textS x ++ s.drop e := by
  obtain ⟨⟨e1, b1⟩, hs1⟩ : ∃ q, wordF s wBetween (a, false) = q := ⟨_, rfl⟩
  obtain ⟨⟨p, e2, b2⟩, hs2⟩ : ∃ q, numF s 0 1048576 (e1, b1) = q := ⟨_, rfl⟩
  obtain ⟨⟨e3, b3⟩, hs3⟩ : ∃ q, wordF s wAnd (e2, b2) = q := ⟨_, rfl⟩
  obtain ⟨⟨f, e4, b4⟩, hs4⟩ : ∃ q, numF s p 1048576 (e3, b3) = q := ⟨_, rfl⟩
  obtain ⟨⟨e7, b7⟩, hs7⟩ : ∃ q, wordF s wEnd (e4, b4) = q := ⟨_, rfl⟩
  have hres : spanF s (a, false) = ((p, f), e7, b7) := by
    simp only [spanF, hs1, hs2, hs3, hs4, hs7]
  rw [hres] at h
  simp only [Prod.mk.injEq] at h
  obtain ⟨rfl, rfl, rfl⟩ := h
  have nb : ∀ {lo hi : Int} {e : Nat} {n : Int} {e' : Nat} {b : Bool}, numF s lo hi (e, b) = (n, e', false) → b = false := by
    intro lo hi e n e' b h
    cases b with
    | false => rfl
    | true => cases h
  obtain rfl : b4 = false := (wordF_ok s wEnd _ (by rw [hs7])).1
  obtain rfl := nb hs4
  obtain rfl : b2 = false := (wordF_ok s wAnd _ (by rw [hs3])).1
  obtain rfl := nb hs2
  rw [wordF_text _ _ _ hs1, numF_text hs2, wordF_text _ _ _ hs3, numF_text hs4, wordF_text _ _ _ hs7]
  simp [textS]
theorem partsL_text {s : List UInt8} : ∀ (f : Nat) (ts : List T3) (ss : List S2) (a : Nat), s.length - a ≤ f → a ≤ s.length → (partsL s f ts ss a).2.2.2 = false →
    textTs ts ++ textSs ss ++ s.drop a = textTs (partsL s f ts ss a).1 ++ textSs (partsL s f ts ss a).2.1
  | 0, ts, ss, a, hf, _, _ => by
    rw [List.drop_eq_nil_of_le (by omega), List.append_nil]
    rfl
  | f + 1, ts, ss, a, hf, hs, h => by
    unfold partsL at h ⊢
    cases hc : s[a]? with
    | none =>
      have : s.length ≤ a := by
        rcases Nat.lt_or_ge a s.length with k | k
        · rw [List.getElem?_eq_getElem k] at hc; cases hc
        · exact k
      rw [List.drop_eq_nil_of_le this, List.append_nil]
    | some c =>
      rw [hc] at h
      simp only at h ⊢
      by_cases h1 : c.toNat = 101 ∧ ss.length = 0
      · rw [if_pos h1] at h ⊢
        by_cases h2 : (turnF s (a, false)).2.2 = true
        · rw [if_pos h2] at h; cases h
        · rw [if_neg h2] at h ⊢
          have h2' : (turnF s (a, false)).2.2 = false := by simpa using h2
          obtain ⟨_, _, k3, k4⟩ := turnF_ok (s := s) (st := (a, false)) h2' hs
          simp only at k3
          have ht := turnF_text (s := s) (a := a) (e := (turnF s (a, false)).2.1) (t := (turnF s (a, false)).1) (Prod.ext rfl (Prod.ext rfl h2'))
          obtain rfl : ss = [] := List.eq_nil_of_length_eq_zero h1.2
          rw [← partsL_text f _ _ _ (by omega) k4 h, textTs_snoc, ht]
          simp [textSs]
      · rw [if_neg h1] at h ⊢
        by_cases h2 : (spanF s (a, false)).2.2 = true
        · rw [if_pos h2] at h; cases h
        · rw [if_neg h2] at h ⊢
          have h2' : (spanF s (a, false)).2.2 = false := by simpa using h2
          obtain ⟨_, _, k3, k4⟩ := spanF_ok (s := s) (st := (a, false)) h2' hs
          simp only at k3
          have ht := spanF_text (s := s) (a := a) (e := (spanF s (a, false)).2.1) (x := (spanF s (a, false)).1) (Prod.ext rfl (Prod.ext rfl h2'))
          rw [← partsL_text f _ _ _ (by omega) k4 h, textSs_snoc, ht]
          simp
/-- A text that is one is printed so; and what it says is valid. -/
theorem parse_text {s : List UInt8} {ts : List T3} {ss : List S2} {n : Nat} (h : parseF s = ((ts, ss), 0, n)) : s = textTs ts ++ textSs ss ∧ AllOk ts ss ∧ ts.length ≤ 24 ∧ ss.length ≤ 40 ∧ n = 0 := by
  unfold parseF at h
  split at h
  · cases h
  · split at h
    · cases h
    · rename_i h1
      split at h
      · cases h
      · rename_i h2
        simp only [Prod.mk.injEq, true_and] at h
        obtain ⟨⟨rfl, rfl⟩, e0⟩ := h
        have h1' : (partsN s [] [] 0).2.2.2 = false := by simpa using h1
        have ht := partsL_text (s := s) (s.length - 0) [] [] 0 (Nat.le_refl _) (Nat.zero_le _) h1'
        have ho := partsL_ok s (s.length - 0) [] [] 0 allOk_nil h1'
        refine ⟨?_, ho, by omega, by omega, e0.symm⟩
        exact ht

/-! What is printed is read back. -/
def valB (n : Int) (D : List UInt8) : Int := D.foldl (fun m c => m * 10 + ((c.toNat : Int) - 48)) n
theorem valB_cons (n : Int) (c : UInt8) (D : List UInt8) : valB n (c :: D) = valB (n * 10 + ((c.toNat : Int) - 48)) D := rfl
theorem isDig_iff {c : UInt8} : isDig c = true ↔ 48 ≤ c.toNat ∧ c.toNat ≤ 57 := by
  unfold isDig
  simp
theorem valB_ge : ∀ (D : List UInt8) (n : Int), (∀ c ∈ D, isDig c = true) → 0 ≤ n → n ≤ valB n D
  | [], _, _, _ => Int.le_refl _
  | c :: D, n, h, hn => by
    have hc := isDig_iff.1 (h c (List.mem_cons_self ..))
    have := valB_ge D (n * 10 + ((c.toNat : Int) - 48)) (fun x hx => h x (List.mem_cons_of_mem _ hx)) (by omega)
    rw [valB_cons]
    omega
theorem canL_val {lo hi : Int} : ∀ (D : List UInt8) (m low high : Int), (∀ c ∈ D, isDig c = true) → 1 ≤ low → low ≤ m → m ≤ high → lo ≤ valB m D → valB m D ≤ hi → canL (hi + 1 - low).toNat low high lo hi = true
  | [], m, low, high, _, h1, h2, h3, h4, h5 => canL_yes (by have : valB m [] = m := rfl; omega) (by have : valB m [] = m := rfl; omega)
  | c :: D, m, low, high, h, h1, h2, h3, h4, h5 => by
    have hc := isDig_iff.1 (h c (List.mem_cons_self ..))
    have hD := fun x hx => h x (List.mem_cons_of_mem c hx)
    rw [valB_cons] at h4 h5
    have hge := valB_ge D (m * 10 + ((c.toNat : Int) - 48)) hD (by omega)
    by_cases k : lo ≤ high
    · exact canL_yes (by omega) k
    · rw [canL_go h1 (by omega) k]
      exact canL_val D _ _ _ hD (by omega) (by omega) (by omega) h4 h5
theorem begins_val {lo hi m : Int} {D : List UInt8} (h : ∀ c ∈ D, isDig c = true) (h1 : 1 ≤ m) (h4 : lo ≤ valB m D) (h5 : valB m D ≤ hi) : beginsB m lo hi = true := by
  unfold beginsB
  rw [if_neg (by omega)]
  exact canL_val D m m m h h1 (Int.le_refl _) (Int.le_refl _) h4 h5
/-- What follows a number is no digit. -/
def NoDig (rest : List UInt8) : Prop := ∀ c t, rest = c :: t → isDig c = false
theorem digL_stop {s : List UInt8} {lo hi n : Int} {rest : List UInt8} {a : Nat} (hr : NoDig rest) (h : s.drop a = rest) (f dg : Nat) : digL s lo hi f n dg a = (n, dg, a) := by
  cases f with
  | zero => rfl
  | succ f =>
    unfold digL
    cases hc : s[a]? with
    | none => rfl
    | some c =>
      have := hr c _ (h ▸ drop_of hc)
      have hb : digB lo hi n dg c = false := by rw [digB_eq, this]; rfl
      simp [hb]
theorem digL_read {s : List UInt8} {lo hi : Int} {rest : List UInt8} (hr : NoDig rest) : ∀ (D : List UInt8) (f : Nat) (n : Int) (dg a : Nat), (∀ c ∈ D, isDig c = true) → 1 ≤ n → lo ≤ valB n D → valB n D ≤ hi → s.drop a = D ++ rest → s.length - a ≤ f →
    digL s lo hi f n dg a = (valB n D, dg + D.length, a + D.length)
  | [], f, n, dg, a, _, _, _, _, h, _ => digL_stop hr h f dg
  | c :: D, f, n, dg, a, hD, hn, h4, h5, h, hf => by
    obtain ⟨q1, q2, q3⟩ := drop_head h
    have hc := isDig_iff.1 (hD c (List.mem_cons_self ..))
    have hD' := fun x hx => hD x (List.mem_cons_of_mem c hx)
    obtain ⟨g, rfl⟩ : ∃ g, f = g + 1 := ⟨f - 1, by omega⟩
    rw [valB_cons] at h4 h5 ⊢
    have hb : digB lo hi n dg c = true := by
      rw [digB_eq, hD c (List.mem_cons_self ..), begins_val hD' (by omega) h4 h5]
      have : ¬ n = 0 := by omega
      simp [this]
    unfold digL
    rw [q1]
    simp only
    rw [if_pos hb, digL_read hr D g _ (dg + 1) (a + 1) hD' (by omega) h4 h5 q2 (by omega)]
    simp
    omega
theorem dec_head : ∀ u : Nat, 1 ≤ u → ∃ c D, Lib.decDigits u = c :: D ∧ 49 ≤ c.toNat ∧ c.toNat ≤ 57 ∧ (∀ x ∈ D, isDig x = true) ∧ valB ((c.toNat : Int) - 48) D = u := by
  intro u
  induction u using Nat.strongRecOn with
  | ind u ih =>
    intro h1
    by_cases h : u < 10
    · refine ⟨_, [], Lib.decDigits_one h, by rw [u8_of h]; omega, by rw [u8_of h]; omega, (fun _ hx => by cases hx), ?_⟩
      show ((UInt8.ofNat (48 + u)).toNat : Int) - 48 = u
      rw [u8_of h]
      omega
    · obtain ⟨c, D, e, k1, k2, k3, k4⟩ := ih (u / 10) (by omega) (by omega)
      have hu : u % 10 < 10 := Nat.mod_lt _ (by decide)
      refine ⟨c, D ++ [UInt8.ofNat (48 + u % 10)], by rw [Lib.decDigits, dif_neg h, e]; rfl, k1, k2, fun x hx => ?_, ?_⟩
      · rcases List.mem_append.1 hx with hx | hx
        · exact k3 x hx
        · rw [List.mem_singleton] at hx
          subst hx
          exact isDig_iff.2 (by rw [u8_of hu]; omega)
      · have : valB ((c.toNat : Int) - 48) (D ++ [UInt8.ofNat (48 + u % 10)]) = valB ((c.toNat : Int) - 48) D * 10 + (((UInt8.ofNat (48 + u % 10)).toNat : Int) - 48) := by
          unfold valB
          rw [List.foldl_append]
          rfl
        rw [this, k4, u8_of hu]
        omega
theorem numF_read {s : List UInt8} {lo hi n : Int} {rest : List UInt8} {a : Nat} (hr : NoDig rest) (l0 : 0 ≤ lo) (l1 : lo ≤ n) (l2 : n ≤ hi) (h : s.drop a = Lib.itoa n ++ rest) :
    numF s lo hi (a, false) = (n, a + (Lib.itoa n).length, false) ∧ s.drop (a + (Lib.itoa n).length) = rest := by
  have hd : s.drop (a + (Lib.itoa n).length) = rest := by
    rw [← List.drop_drop, h]
    simp
  refine ⟨?_, hd⟩
  have hF : numF s lo hi (a, false) = ((digF s lo hi 0 0 a).1, (digF s lo hi 0 0 a).2.2, decide ((digF s lo hi 0 0 a).2.1 = 0) || decide ((digF s lo hi 0 0 a).1 < lo)) := rfl
  obtain ⟨u, rfl⟩ : ∃ u : Nat, n = u := ⟨n.toNat, by omega⟩
  rw [Lib.itoa_nonneg] at h hd ⊢
  by_cases h0 : u = 0
  · subst h0
    have e : Lib.decDigits 0 = [48] := Lib.decDigits_one (by decide)
    rw [e] at h hd ⊢
    obtain ⟨q1, q2, q3⟩ := drop_head h
    have hb : digB lo hi 0 0 48 = true := by
      have : lo = 0 := by omega
      subst this
      rw [digB_eq]
      have b0 : beginsB (0 * 10 + (((48 : UInt8).toNat : Int) - 48)) 0 hi = true := by
        rw [show (0 : Int) * 10 + (((48 : UInt8).toNat : Int) - 48) = 0 by decide]
        unfold beginsB
        simp
      rw [b0]
      decide
    have : digF s lo hi 0 0 a = (0, 1, a + 1) := by
      rw [digF_go q1 hb, show (0 : Int) * 10 + (((48 : UInt8).toNat : Int) - 48) = 0 by decide]
      exact digL_stop hr q2 _ _
    rw [hF, this]
    have : ¬ (0 : Int) < lo := by omega
    simp [this]
  · obtain ⟨c, D, e, k1, k2, k3, k4⟩ := dec_head u (by omega)
    rw [e] at h hd ⊢
    obtain ⟨q1, q2, q3⟩ := drop_head h
    have hb : digB lo hi 0 0 c = true := by
      rw [digB_eq, isDig_iff.2 ⟨by omega, k2⟩, show (0 : Int) * 10 + ((c.toNat : Int) - 48) = (c.toNat : Int) - 48 by omega, begins_val k3 (by omega) (by omega) (by omega)]
      rfl
    have : digF s lo hi 0 0 a = ((u : Int), 1 + D.length, a + 1 + D.length) := by
      rw [digF_go q1 hb, show (0 : Int) * 10 + ((c.toNat : Int) - 48) = (c.toNat : Int) - 48 by omega, ← k4]
      exact digL_read hr D _ _ _ _ k3 (by omega) (by omega) (by omega) q2 (Nat.le_refl _)
    rw [hF, this]
    have h3 : ¬ (u : Int) < lo := by omega
    have h4 : ¬ 1 + D.length = 0 := by omega
    simp only [List.length_cons, Prod.mk.injEq, true_and]
    exact ⟨by omega, by simp [h3, h4]⟩
theorem wordF_read {s : List UInt8} : ∀ (w : List UInt8) (a : Nat) (rest : List UInt8), s.drop a = w ++ rest → wordF s w (a, false) = (a + w.length, false) ∧ s.drop (a + w.length) = rest
  | [], a, rest, h => ⟨rfl, h⟩
  | c :: w, a, rest, h => by
    obtain ⟨q1, q2, _⟩ := drop_head (t := w ++ rest) h
    obtain ⟨r1, r2⟩ := wordF_read w (a + 1) rest q2
    have e : wordF s (c :: w) (a, false) = wordF s w (stepW s (a, false) c) := rfl
    have hs : stepW s (a, false) c = (a + 1, false) := by unfold stepW; simp [q1]
    rw [e, hs, r1]
    rw [show a + 1 + w.length = a + (c :: w).length by simp; omega] at r2 ⊢
    exact ⟨rfl, r2⟩
theorem noDig_cons {c : UInt8} (h : isDig c = false) (t : List UInt8) : NoDig (c :: t) := fun x y e => by cases e; exact h
theorem noDig_from (X : List UInt8) : NoDig (wFrom ++ X) := noDig_cons (c := 32) (by decide) _
theorem noDig_for (X : List UInt8) : NoDig (wFor ++ X) := noDig_cons (c := 32) (by decide) _
theorem noDig_and (X : List UInt8) : NoDig (wAnd ++ X) := noDig_cons (c := 32) (by decide) _
theorem noDig_end (X : List UInt8) : NoDig (wEnd ++ X) := noDig_cons (c := 59) (by decide) _
theorem turnF_read {s : List UInt8} {t : T3} {rest : List UInt8} {a : Nat} (ht : TOk t.1 t.2.1 t.2.2) (h : s.drop a = textT t ++ rest) : ∃ e, turnF s (a, false) = (t, e, false) ∧ s.drop e = rest := by
  obtain ⟨p, f, l⟩ := t
  obtain ⟨t1, t2, t3, t4, t5, t6⟩ := ht
  simp only at t1 t2 t3 t4 t5 t6
  have h' : s.drop a = wEvery ++ (Lib.itoa p ++ (wFrom ++ (Lib.itoa f ++ (wFor ++ (Lib.itoa l ++ (wEnd ++ rest)))))) := by rw [h]; simp [textT]
  obtain ⟨a1, b1⟩ := wordF_read _ _ _ h'
  obtain ⟨a2, b2⟩ := numF_read (lo := 1) (hi := 40320) (noDig_from _) (by omega) (by omega) (by omega) b1
  obtain ⟨a3, b3⟩ := wordF_read _ _ _ b2
  obtain ⟨a4, b4⟩ := numF_read (lo := 0) (hi := p - 1) (noDig_for _) (by omega) (by omega) (by omega) b3
  obtain ⟨a5, b5⟩ := wordF_read _ _ _ b4
  obtain ⟨a6, b6⟩ := numF_read (lo := 1) (hi := p) (noDig_end _) (by omega) (by omega) (by omega) b5
  obtain ⟨a7, b7⟩ := wordF_read _ _ _ b6
  exact ⟨_, by simp only [turnF, a1, a2, a3, a4, a5, a6, a7], b7⟩
theorem spanF_read {s : List UInt8} {x : S2} {rest : List UInt8} {a : Nat} (ht : SOk x.1 x.2) (h : s.drop a = textS x ++ rest) : ∃ e, spanF s (a, false) = (x, e, false) ∧ s.drop e = rest := by
  obtain ⟨p, f⟩ := x
  obtain ⟨t1, t2, t3⟩ := ht
  simp only at t1 t2 t3
  have h' : s.drop a = wBetween ++ (Lib.itoa p ++ (wAnd ++ (Lib.itoa f ++ (wEnd ++ rest)))) := by rw [h]; simp [textS]
  obtain ⟨a1, b1⟩ := wordF_read _ _ _ h'
  obtain ⟨a2, b2⟩ := numF_read (lo := 0) (hi := 1048576) (noDig_and _) (by omega) (by omega) (by omega) b1
  obtain ⟨a3, b3⟩ := wordF_read _ _ _ b2
  obtain ⟨a4, b4⟩ := numF_read (lo := p) (hi := 1048576) (noDig_end _) (by omega) (by omega) (by omega) b3
  obtain ⟨a7, b7⟩ := wordF_read _ _ _ b4
  exact ⟨_, by simp only [spanF, a1, a2, a3, a4, a7], b7⟩
theorem parts_spans {s : List UInt8} : ∀ (xs : List S2) (ts : List T3) (ss : List S2) (a : Nat), (∀ x ∈ xs, SOk x.1 x.2) → s.drop a = textSs xs → ∃ e, partsN s ts ss a = (ts, ss ++ xs, e, false)
  | [], ts, ss, a, _, h => by
    have : s.length ≤ a := by
      have := congrArg List.length h
      simp [textSs] at this
      omega
    exact ⟨a, by rw [partsN_end this, List.append_nil]⟩
  | x :: xs, ts, ss, a, hx, h => by
    have h' : s.drop a = textS x ++ textSs xs := by rw [h]; rfl
    obtain ⟨e, h1, h2⟩ := spanF_read (hx x (List.mem_cons_self ..)) h'
    have hc : s[a]? = some 98 := (drop_head (t := _) h').1
    obtain ⟨e', he⟩ := parts_spans xs ts (ss ++ [x]) e (fun y hy => hx y (List.mem_cons_of_mem _ hy)) h2
    refine ⟨e', ?_⟩
    rw [partsN_step hc, if_neg (by intro h; exact absurd h.1 (by decide)), h1]
    simp only
    rw [if_neg (by decide), he]
    simp
theorem parts_turns {s : List UInt8} {xs : List S2} (hx : ∀ x ∈ xs, SOk x.1 x.2) : ∀ (ls ts : List T3) (a : Nat), (∀ t ∈ ls, TOk t.1 t.2.1 t.2.2) → s.drop a = textTs ls ++ textSs xs → ∃ e, partsN s ts [] a = (ts ++ ls, xs, e, false)
  | [], ts, a, _, h => by
    obtain ⟨e, he⟩ := parts_spans xs ts [] a hx h
    exact ⟨e, by rw [he]; simp⟩
  | t :: ls, ts, a, ht, h => by
    have h' : s.drop a = textT t ++ (textTs ls ++ textSs xs) := by rw [h]; simp [textTs]
    obtain ⟨e, h1, h2⟩ := turnF_read (ht t (List.mem_cons_self ..)) h'
    have hc : s[a]? = some 101 := (drop_head (t := _) h').1
    obtain ⟨e', he⟩ := parts_turns hx ls (ts ++ [t]) e (fun y hy => ht y (List.mem_cons_of_mem _ hy)) h2
    refine ⟨e', ?_⟩
    rw [partsN_step hc, if_pos ⟨by decide, rfl⟩, h1]
    simp only
    rw [if_neg (by decide), he]
    simp
theorem itoa_len {n : Int} (h0 : 0 ≤ n) (h1 : n < 10000000) : (Lib.itoa n).length ≤ 7 := by
  obtain ⟨u, rfl⟩ : ∃ u : Nat, n = u := ⟨n.toNat, by omega⟩
  rw [Lib.itoa_nonneg, Lib.decDigits_length]
  rcases Nat.lt_or_ge 7 (Lib.nDigits u) with h | h
  · exfalso
    have : ∀ k u : Nat, u < 10 ^ (k + 1) → Lib.nDigits u ≤ k + 1 := by
      intro k
      induction k with
      | zero => intro u hu; rw [Lib.nDigits_small (by simpa using hu)]; omega
      | succ k ih =>
        intro u hu
        by_cases c : u < 10
        · rw [Lib.nDigits_small c]; omega
        · rw [Lib.nDigits_big c]
          rw [Nat.pow_succ] at hu
          have := ih (u / 10) (by omega)
          omega
    have := this 6 u (by omega)
    omega
  · exact h
theorem textT_short {t : T3} (h : TOk t.1 t.2.1 t.2.2) : (textT t).length ≤ 40 := by
  obtain ⟨t1, t2, t3, t4, t5, t6⟩ := h
  have e1 := itoa_len (n := t.1) (by omega) (by omega)
  have e2 := itoa_len (n := t.2.1) (by omega) (by omega)
  have e3 := itoa_len (n := t.2.2) (by omega) (by omega)
  simp only [textT, List.length_append, show wEvery.length = 6 from rfl, show wFrom.length = 6 from rfl, show wFor.length = 5 from rfl, show wEnd.length = 2 from rfl]
  omega
theorem textS_short {x : S2} (h : SOk x.1 x.2) : (textS x).length ≤ 40 := by
  obtain ⟨t1, t2, t3⟩ := h
  have e1 := itoa_len (n := x.1) (by omega) (by omega)
  have e2 := itoa_len (n := x.2) (by omega) (by omega)
  simp only [textS, List.length_append, show wBetween.length = 8 from rfl, show wAnd.length = 5 from rfl, show wEnd.length = 2 from rfl]
  omega
theorem textTs_short : ∀ (ts : List T3), (∀ t ∈ ts, TOk t.1 t.2.1 t.2.2) → (textTs ts).length ≤ 40 * ts.length
  | [], _ => Nat.le_refl _
  | t :: ts, h => by
    have h1 := textT_short (h t (List.mem_cons_self ..))
    have h2 := textTs_short ts (fun x hx => h x (List.mem_cons_of_mem _ hx))
    simp only [textTs, List.flatMap_cons, List.length_append, List.length_cons] at h2 ⊢
    omega
theorem textSs_short : ∀ (ss : List S2), (∀ s ∈ ss, SOk s.1 s.2) → (textSs ss).length ≤ 40 * ss.length
  | [], _ => Nat.le_refl _
  | t :: ts, h => by
    have h1 := textS_short (h t (List.mem_cons_self ..))
    have h2 := textSs_short ts (fun x hx => h x (List.mem_cons_of_mem _ hx))
    simp only [textSs, List.flatMap_cons, List.length_append, List.length_cons] at h2 ⊢
    omega
/-- What is printed of a valid set is read back. -/
theorem read_back {ts : List T3} {ss : List S2} (ho : AllOk ts ss) (h1 : ts.length ≤ 24) (h2 : ss.length ≤ 40) : parseF (textTs ts ++ textSs ss) = ((ts, ss), 0, 0) := by
  have l1 := textTs_short ts ho.1
  have l2 := textSs_short ss ho.2
  obtain ⟨e, he⟩ := parts_turns (s := textTs ts ++ textSs ss) ho.2 ts [] 0 ho.1 rfl
  unfold parseF
  rw [if_neg (by rw [List.length_append]; omega), he]
  simp only [List.nil_append]
  rw [if_neg (by decide), if_neg (by omega)]
end Go.Proofs.YtlhgpeelenelbaaDoor
