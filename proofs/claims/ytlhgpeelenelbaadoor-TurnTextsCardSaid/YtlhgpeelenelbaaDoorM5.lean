/- Plain mathematics: which minutes the runs of a set have; marks; the least common multiple of many periods. -/
import Derived.Test.YtlhgpeelenelbaaDoorM4
namespace Go.Proofs.YtlhgpeelenelbaaDoor

theorem more_cover (l : List (Int × Int)) (m : Int) : (∀ x ∈ l, ∃ y ∈ more l m, y.1 = x.1 ∧ (x.2 ≤ y.2 ∨ x.2 = y.2) ∨ (∃ y ∈ more l m, y = x)) ∧ True := ⟨fun x hx => by
  rcases list_cases l with rfl | ⟨i, z, rfl⟩
  · cases hx
  · rw [more_snoc]
    split
    · rename_i hz
      rcases List.mem_append.1 hx with h | h
      · exact ⟨x, by simp [h], .inl ⟨rfl, .inr rfl⟩⟩
      · simp at h
        subst h
        exact ⟨(x.1, m), by simp, .inl ⟨rfl, .inl (by simp; omega)⟩⟩
    · exact ⟨x, by simp at hx ⊢; rcases hx with h | h <;> simp [h], .inl ⟨rfl, .inr rfl⟩⟩, trivial⟩
theorem spn_cover (H : Int → Bool) (lo : Int) : ∀ (k : Nat) (m : Int), lo ≤ m → m < lo + k → H m = true → ∃ x ∈ spn H lo k, x.1 ≤ m ∧ m ≤ x.2
  | 0, m, h1, h2, _ => by omega
  | k + 1, m, h1, h2, hm => by
    by_cases e : m = lo + k
    · subst e
      unfold spn
      rw [if_pos hm]
      rcases list_cases (spn H lo k) with q | ⟨i, z, q⟩
      · rw [q, more_empty]
        exact ⟨_, List.mem_singleton.2 rfl, Int.le_refl _, Int.le_refl _⟩
      · have hz := spn_in H lo k z (by rw [q]; simp)
        rw [q, more_snoc]
        split
        · exact ⟨(z.1, lo + k), by simp, by have := hz.1; have := hz.2.1; have := hz.2.2.1; simp; omega, Int.le_refl _⟩
        · exact ⟨(lo + k, lo + k), by simp, Int.le_refl _, Int.le_refl _⟩
    · obtain ⟨x, hx, hx1, hx2⟩ := spn_cover H lo k m h1 (by omega) hm
      unfold spn
      split
      · obtain ⟨y, hy, h⟩ := (more_cover (spn H lo k) (lo + k)).1 x hx
        rcases h with ⟨e1, e2⟩ | ⟨z, hz, rfl⟩
        · exact ⟨y, hy, by omega, by omega⟩
        · exact ⟨z, hz, hx1, hx2⟩
      · exact ⟨x, hx, hx1, hx2⟩

/-- Is a number in one of some spans? -/
def inAny (l : List (Int × Int)) (m : Int) : Bool := l.any fun x => decide (x.1 ≤ m) && decide (m ≤ x.2)
theorem inAny_iff (l : List (Int × Int)) (m : Int) : inAny l m = true ↔ ∃ x ∈ l, x.1 ≤ m ∧ m ≤ x.2 := by simp [inAny]
theorem inAny_spn (H : Int → Bool) (lo : Int) (k : Nat) (m : Int) (h1 : lo ≤ m) (h2 : m < lo + k) : inAny (spn H lo k) m = H m := by
  rw [Bool.eq_iff_iff, inAny_iff]
  constructor
  · rintro ⟨x, hx, a, b⟩
    exact (spn_in H lo k x hx).2.2.2 m a b
  · exact spn_cover H lo k m h1 h2
/-- The marks of n numbers from 0 on. -/
def marks (n : Nat) (f : Int → Bool) : List Bool := (List.range n).map fun (i : Nat) => f (i : Int)
theorem marks_len (n : Nat) (f : Int → Bool) : (marks n f).length = n := by simp [marks]
theorem marks_at (n : Nat) (f : Int → Bool) (i : Nat) (h : i < n) : (marks n f)[i]? = some (f i) := by simp [marks, h]
theorem marks_set (n : Nat) (f g : Int → Bool) (i : Nat) (hi : i < n) (hg : g i = true) (ho : ∀ m : Int, m ≠ i → g m = f m) : (marks n f).set i true = marks n g := by
  apply List.ext_getElem?
  intro j
  rw [List.getElem?_set]
  by_cases hj : j < n
  · rw [marks_at n g j hj]
    by_cases e : i = j
    · subst e; simp [marks_len, hi, hg]
    · rw [if_neg e, marks_at n f j hj, ho j (by omega)]
  · rw [List.getElem?_eq_none (l := marks n g) (by rw [marks_len]; omega)]
    split
    · rw [if_neg (by rw [marks_len]; omega)]
    · rw [List.getElem?_eq_none (by rw [marks_len]; omega)]
theorem marks_congr (n : Nat) (f g : Int → Bool) (h : ∀ m : Int, 0 ≤ m → m < n → f m = g m) : marks n f = marks n g := by
  apply List.ext_getElem?
  intro j
  by_cases hj : j < n
  · rw [marks_at n f j hj, marks_at n g j hj, h j (by omega) (by omega)]
  · rw [List.getElem?_eq_none (by rw [marks_len]; omega), List.getElem?_eq_none (by rw [marks_len]; omega)]

/-- The least common multiple of the periods of some turns. -/
def lcmS (l : List (Int × Int × Int)) : Int := l.foldl (fun a t => lcmF a t.1) 1
theorem lcmS_snoc (l : List (Int × Int × Int)) (t : Int × Int × Int) : lcmS (l ++ [t]) = lcmF (lcmS l) t.1 := by simp [lcmS, List.foldl_append]
theorem lcmS_pos : ∀ (n : Nat) (l : List (Int × Int × Int)), l.length = n → (∀ t ∈ l, 1 ≤ t.1) → 1 ≤ lcmS l := by
  intro n
  induction n with
  | zero => intro l h _; rw [List.length_eq_zero_iff.1 h]; exact Int.le_refl _
  | succ n ih =>
    intro l h ht
    rcases List.eq_nil_or_concat l with e | ⟨i, x, e⟩
    · subst e; cases h
    · have e' : l = i ++ [x] := by simpa using e
      subst e'
      rw [lcmS_snoc]
      exact lcmF_pos (ih i (by simp at h; exact h) (fun t q => ht t (by simp [q]))) (ht x (by simp))
end Go.Proofs.YtlhgpeelenelbaaDoor
