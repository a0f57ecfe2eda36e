/- Plain mathematics: how a text is read. -/
import Derived.Test.YtlhgpeelenelbaaDoorM5
namespace Go.Proofs.YtlhgpeelenelbaaDoor

def canL : Nat → Int → Int → Int → Int → Bool
  | 0, _, _, _, _ => false
  | f + 1, low, high, lo, hi => if low ≤ hi then (if lo ≤ high then true else canL f (low * 10) (high * 10 + 9) lo hi) else false
/-- Do the digits of a number begin one from lo to hi? -/
def beginsB (n lo hi : Int) : Bool := if n = 0 then decide (lo = 0) else canL (hi + 1 - n).toNat n n lo hi
theorem canL_fuel : ∀ (f g : Nat) (low high lo hi : Int), 1 ≤ low → (hi + 1 - low).toNat ≤ f → (hi + 1 - low).toNat ≤ g → canL f low high lo hi = canL g low high lo hi
  | 0, 0, _, _, _, _, _, _, _ => rfl
  | 0, g + 1, low, high, lo, hi, h1, hf, _ => by
    unfold canL; rw [if_neg (by omega)]
  | f + 1, 0, low, high, lo, hi, h1, _, hg => by
    unfold canL; rw [if_neg (by omega)]
  | f + 1, g + 1, low, high, lo, hi, h1, hf, hg => by
    unfold canL
    by_cases c : low ≤ hi
    · rw [if_pos c, if_pos c, canL_fuel f g (low * 10) (high * 10 + 9) lo hi (by omega) (by omega) (by omega)]
    · rw [if_neg c, if_neg c]
theorem canL_stop {low high lo hi : Int} (h : ¬ low ≤ hi) : canL (hi + 1 - low).toNat low high lo hi = false := by
  rw [show (hi + 1 - low).toNat = 0 by omega]; rfl
theorem canL_yes {low high lo hi : Int} (h : low ≤ hi) (h2 : lo ≤ high) : canL (hi + 1 - low).toNat low high lo hi = true := by
  obtain ⟨f, hf⟩ : ∃ f, (hi + 1 - low).toNat = f + 1 := ⟨(hi - low).toNat, by omega⟩
  rw [hf]; unfold canL; rw [if_pos h, if_pos h2]
theorem canL_go {low high lo hi : Int} (h0 : 1 ≤ low) (h : low ≤ hi) (h2 : ¬ lo ≤ high) : canL (hi + 1 - low).toNat low high lo hi = canL (hi + 1 - low * 10).toNat (low * 10) (high * 10 + 9) lo hi := by
  obtain ⟨f, hf⟩ : ∃ f, (hi + 1 - low).toNat = f + 1 := ⟨(hi - low).toNat, by omega⟩
  rw [hf]
  conv => lhs; unfold canL
  rw [if_pos h, if_neg h2]
  exact canL_fuel _ _ _ _ _ _ (by omega) (by omega) (Nat.le_refl _)
theorem beginsB_le {n lo hi : Int} (h : beginsB n lo hi = true) : n ≤ hi ∨ (n = 0 ∧ lo = 0) := by
  unfold beginsB at h
  split at h
  · right; exact ⟨by assumption, by simpa using h⟩
  · by_cases c : n ≤ hi
    · exact .inl c
    · rw [canL_stop c] at h; cases h

/-- One byte of a word. -/
def stepW (s : List UInt8) (st : Nat × Bool) (c : UInt8) : Nat × Bool := if st.2 = true then st else if s[st.1]? = some c then (st.1 + 1, false) else (st.1, true)
/-- A word is read: where the reader stands behind it, and whether it has failed. -/
def wordF (s w : List UInt8) (st : Nat × Bool) : Nat × Bool := w.foldl (stepW s) st
theorem wordF_snoc (s w : List UInt8) (c : UInt8) (st : Nat × Bool) : wordF s (w ++ [c]) st = stepW s (wordF s w st) c := by simp [wordF, List.foldl_append]
theorem wordF_bad (s : List UInt8) : ∀ (w : List UInt8) (a : Nat), wordF s w (a, true) = (a, true)
  | [], _ => rfl
  | c :: w, a => by
    have : wordF s (c :: w) (a, true) = wordF s w (stepW s (a, true) c) := rfl
    rw [this, show stepW s (a, true) c = (a, true) from rfl]
    exact wordF_bad s w a
theorem wordF_le (s : List UInt8) : ∀ (w : List UInt8) (st : Nat × Bool), st.1 ≤ s.length → (wordF s w st).1 ≤ s.length ∧ st.1 ≤ (wordF s w st).1
  | [], st, h => ⟨h, Nat.le_refl _⟩
  | c :: w, st, h => by
    have e : wordF s (c :: w) st = wordF s w (stepW s st c) := rfl
    rw [e]
    have hs : (stepW s st c).1 ≤ s.length ∧ st.1 ≤ (stepW s st c).1 := by
      unfold stepW
      split
      · exact ⟨h, Nat.le_refl _⟩
      · split
        · rename_i hc
          have := (List.getElem?_eq_some_iff.1 hc).1
          exact ⟨by simp; omega, by simp⟩
        · exact ⟨h, Nat.le_refl _⟩
    have := wordF_le s w (stepW s st c) hs.1
    exact ⟨this.1, by omega⟩

/-- May a byte be the next digit? -/
def digB (lo hi n : Int) (dg : Nat) (c : UInt8) : Bool :=
  decide (48 ≤ c.toNat) && decide (c.toNat ≤ 57) && !(decide (0 < dg) && decide (n = 0)) && beginsB (n * 10 + ((c.toNat : Int) - 48)) lo hi
/-- Digits are read: the number, how many there were, and where the reader stands. -/
def digL (s : List UInt8) (lo hi : Int) : Nat → Int → Nat → Nat → Int × Nat × Nat
  | 0, n, dg, a => (n, dg, a)
  | f + 1, n, dg, a =>
    match s[a]? with
    | some c => if digB lo hi n dg c = true then digL s lo hi f (n * 10 + ((c.toNat : Int) - 48)) (dg + 1) (a + 1) else (n, dg, a)
    | none => (n, dg, a)
def digF (s : List UInt8) (lo hi n : Int) (dg a : Nat) : Int × Nat × Nat := digL s lo hi (s.length - a) n dg a
theorem digF_go {s : List UInt8} {lo hi n : Int} {dg a : Nat} {c : UInt8} (hc : s[a]? = some c) (hd : digB lo hi n dg c = true) : digF s lo hi n dg a = digF s lo hi (n * 10 + ((c.toNat : Int) - 48)) (dg + 1) (a + 1) := by
  have hl := (List.getElem?_eq_some_iff.1 hc).1
  unfold digF
  rw [show s.length - a = (s.length - (a + 1)) + 1 by omega]
  conv => lhs; unfold digL
  simp [hc, hd]
theorem digF_no {s : List UInt8} {lo hi n : Int} {dg a : Nat} {c : UInt8} (hc : s[a]? = some c) (hd : digB lo hi n dg c = false) : digF s lo hi n dg a = (n, dg, a) := by
  have hl := (List.getElem?_eq_some_iff.1 hc).1
  unfold digF
  rw [show s.length - a = (s.length - (a + 1)) + 1 by omega]
  unfold digL
  simp [hc, hd]
theorem digF_end {s : List UInt8} {lo hi n : Int} {dg a : Nat} (hc : s.length ≤ a) : digF s lo hi n dg a = (n, dg, a) := by
  unfold digF
  rw [show s.length - a = 0 by omega]; rfl
theorem digB_le {lo hi n : Int} {dg : Nat} {c : UInt8} (h : digB lo hi n dg c = true) : 48 ≤ c.toNat ∧ (n * 10 + ((c.toNat : Int) - 48) ≤ hi ∨ n * 10 + ((c.toNat : Int) - 48) = 0) := by
  unfold digB at h
  simp only [Bool.and_eq_true, decide_eq_true_eq] at h
  obtain ⟨⟨⟨h1, _⟩, _⟩, h4⟩ := h
  rcases beginsB_le h4 with h | ⟨h, _⟩
  · exact ⟨h1, .inl h⟩
  · exact ⟨h1, .inr h⟩
/-- A number is read: it, where the reader stands, and whether it has failed. -/
def numF (s : List UInt8) (lo hi : Int) (st : Nat × Bool) : Int × Nat × Bool :=
  if st.2 = true then (0, st) else
    let r := digF s lo hi 0 0 st.1
    (r.1, r.2.2, decide (r.2.1 = 0) || decide (r.1 < lo))

theorem digL_bd (s : List UInt8) (lo hi H : Int) (hH : 0 ≤ H) (hi' : hi ≤ H) : ∀ (f : Nat) (n : Int) (dg a : Nat), 0 ≤ n → n ≤ H → a ≤ s.length → 0 ≤ (digL s lo hi f n dg a).1 ∧ (digL s lo hi f n dg a).1 ≤ H ∧ a ≤ (digL s lo hi f n dg a).2.2 ∧ (digL s lo hi f n dg a).2.2 ≤ s.length
  | 0, n, dg, a, h1, h2, h3 => ⟨h1, h2, Nat.le_refl _, h3⟩
  | f + 1, n, dg, a, h1, h2, h3 => by
    unfold digL
    cases hc : s[a]? with
    | none => exact ⟨h1, h2, Nat.le_refl _, h3⟩
    | some c =>
      have hl := (List.getElem?_eq_some_iff.1 hc).1
      simp only
      split
      · rename_i hd
        obtain ⟨q1, q2⟩ := digB_le hd
        have := digL_bd s lo hi H hH hi' f (n * 10 + ((c.toNat : Int) - 48)) (dg + 1) (a + 1) (by omega) (by omega) (by omega)
        exact ⟨this.1, this.2.1, by omega, this.2.2.2⟩
      · exact ⟨h1, h2, Nat.le_refl _, h3⟩
theorem numF_bd (s : List UInt8) (lo hi H : Int) (st : Nat × Bool) (hH : 0 ≤ H) (hi' : hi ≤ H) (h : st.1 ≤ s.length) : 0 ≤ (numF s lo hi st).1 ∧ (numF s lo hi st).1 ≤ H ∧ st.1 ≤ (numF s lo hi st).2.1 ∧ (numF s lo hi st).2.1 ≤ s.length := by
  unfold numF
  split
  · exact ⟨Int.le_refl _, hH, Nat.le_refl _, h⟩
  · have := digL_bd s lo hi H hH hi' (s.length - st.1) 0 0 st.1 (Int.le_refl _) hH h
    exact this
end Go.Proofs.YtlhgpeelenelbaaDoor
