/- Plain mathematics: the runs of a set within a span, minute by minute. -/
import Derived.Test.YtlhgpeelenelbaaDoorM3
namespace Go.Proofs.YtlhgpeelenelbaaDoor

/-- Spans with one minute more, behind them. -/
def more (l : List (Int × Int)) (m : Int) : List (Int × Int) :=
  match l.getLast? with
  | some x => if x.2 = m - 1 then l.dropLast ++ [(x.1, m)] else l ++ [(m, m)]
  | none => [(m, m)]
/-- The spans of the first k minutes from lo on. -/
def spn (H : Int → Bool) (lo : Int) : Nat → List (Int × Int)
  | 0 => []
  | k + 1 => if H (lo + k) = true then more (spn H lo k) (lo + k) else spn H lo k
def cntH (H : Int → Bool) (lo : Int) : Nat → Int
  | 0 => 0
  | k + 1 => if H (lo + k) = true then cntH H lo k + 1 else cntH H lo k
def tot (l : List (Int × Int)) : Int := l.foldl (fun n x => n + (x.2 - x.1 + 1)) 0

theorem tot_nil : tot [] = 0 := rfl
theorem tot_snoc (l : List (Int × Int)) (x : Int × Int) : tot (l ++ [x]) = tot l + (x.2 - x.1 + 1) := by simp [tot, List.foldl_append]
theorem more_empty (m : Int) : more [] m = [(m, m)] := rfl
theorem more_snoc (l : List (Int × Int)) (x : Int × Int) (m : Int) : more (l ++ [x]) m = if x.2 = m - 1 then l ++ [(x.1, m)] else l ++ [x] ++ [(m, m)] := by
  simp [more]
theorem list_cases {α : Type} (l : List α) : l = [] ∨ ∃ i x, l = i ++ [x] := by
  rcases List.eq_nil_or_concat l with h | ⟨i, x, h⟩
  · exact .inl h
  · exact .inr ⟨i, x, by simpa using h⟩
theorem tot_more (l : List (Int × Int)) (m : Int) : tot (more l m) = tot l + 1 := by
  rcases list_cases l with rfl | ⟨i, x, rfl⟩
  · simp [more_empty, tot]
  · rw [more_snoc, tot_snoc]
    split
    · rw [tot_snoc]; simp; omega
    · rw [tot_snoc, tot_snoc]; simp
theorem tot_spn (H : Int → Bool) (lo : Int) : ∀ k, tot (spn H lo k) = cntH H lo k
  | 0 => rfl
  | k + 1 => by
    unfold spn cntH
    split
    · rw [tot_more, tot_spn H lo k]
    · exact tot_spn H lo k
theorem cntH_bd (H : Int → Bool) (lo : Int) : ∀ k : Nat, 0 ≤ cntH H lo k ∧ cntH H lo k ≤ k
  | 0 => ⟨Int.le_refl _, Int.le_refl _⟩
  | k + 1 => by
    have := cntH_bd H lo k
    unfold cntH
    split <;> omega
theorem spn_len (H : Int → Bool) (lo : Int) : ∀ k : Nat, (spn H lo k).length ≤ k
  | 0 => Nat.le_refl _
  | k + 1 => by
    have := spn_len H lo k
    unfold spn
    split
    · rcases list_cases (spn H lo k) with e | ⟨i, x, e⟩
      · rw [e, more_empty]; simp
      · rw [e] at this ⊢
        rw [more_snoc]
        split <;> simp at this ⊢ <;> omega
    · omega

/-- What each span is. -/
def SpanIn (H : Int → Bool) (lo : Int) (k : Nat) (x : Int × Int) : Prop := lo ≤ x.1 ∧ x.1 ≤ x.2 ∧ x.2 < lo + k ∧ ∀ m, x.1 ≤ m → m ≤ x.2 → H m = true
theorem spanIn_one {H : Int → Bool} {lo : Int} {k : Nat} (hH : H (lo + k) = true) : SpanIn H lo (k + 1) (lo + k, lo + k) := by
  refine ⟨?_, ?_, ?_, ?_⟩
  · show lo ≤ lo + (k : Int); omega
  · exact Int.le_refl _
  · show lo + (k : Int) < lo + ((k + 1 : Nat) : Int); omega
  · intro m h1 h2
    have h1' : lo + (k : Int) ≤ m := h1
    have h2' : m ≤ lo + (k : Int) := h2
    obtain rfl : m = lo + k := by omega
    exact hH
theorem spn_in (H : Int → Bool) (lo : Int) : ∀ (k : Nat), ∀ x ∈ spn H lo k, SpanIn H lo k x
  | 0, x, h => by simp [spn] at h
  | k + 1, x, h => by
    have ih := spn_in H lo k
    unfold spn at h
    split at h
    · rename_i hH
      rcases list_cases (spn H lo k) with e | ⟨i, y, e⟩
      · rw [e, more_empty] at h
        simp at h
        subst h
        exact spanIn_one hH
      · rw [e, more_snoc] at h
        rw [e] at ih
        split at h
        · rename_i hy
          rcases List.mem_append.1 h with h | h
          · obtain ⟨a, b, c, d⟩ := ih x (by simp [h])
            exact ⟨a, b, by omega, d⟩
          · simp at h
            subst h
            obtain ⟨a, b, c, d⟩ := ih y (by simp)
            refine ⟨a, by simp; omega, by simp; omega, fun m h1 h2 => ?_⟩
            simp at h1 h2
            by_cases hm : m ≤ y.2
            · exact d m h1 hm
            · obtain rfl : m = lo + k := by omega
              exact hH
        · rcases List.mem_append.1 h with h | h
          · obtain ⟨a, b, c, d⟩ := ih x h
            exact ⟨a, b, by omega, d⟩
          · simp at h
            subst h
            exact spanIn_one hH
    · obtain ⟨a, b, c, d⟩ := ih x h
      exact ⟨a, b, by omega, d⟩

theorem spn_gap (H : Int → Bool) (lo : Int) (k : Nat) : ∀ (d : Nat), (∀ m, lo + k ≤ m → m < lo + k + d → H m = false) → spn H lo (k + d) = spn H lo k
  | 0, _ => rfl
  | d + 1, h => by
    rw [← Nat.add_assoc]
    show (if H (lo + ((k + d : Nat) : Int)) = true then _ else _) = _
    rw [if_neg (by rw [h _ (by omega) (by omega)]; simp)]
    exact spn_gap H lo k d (fun m h1 h2 => h m h1 (by omega))
theorem spn_run (H : Int → Bool) (lo : Int) (k : Nat) (h0 : k = 0 ∨ H (lo + k - 1) = false) : ∀ (d : Nat), (∀ m, lo + k ≤ m → m ≤ lo + k + d → H m = true) → spn H lo (k + d + 1) = spn H lo k ++ [(lo + k, lo + k + d)]
  | 0, h => by
    show (if H (lo + ((k + 0 : Nat) : Int)) = true then _ else _) = _
    rw [if_pos (h _ (by omega) (by omega))]
    show more (spn H lo k) (lo + (k : Int)) = spn H lo k ++ [(lo + (k : Int), lo + (k : Int) + ((0 : Nat) : Int))]
    rw [show lo + (k : Int) + ((0 : Nat) : Int) = lo + k by omega]
    rcases list_cases (spn H lo k) with e | ⟨i, x, e⟩
    · rw [e, more_empty]; rfl
    · have hx := spn_in H lo k x (by rw [e]; simp)
      rw [e, more_snoc, if_neg]
      · intro hc
        rcases h0 with rfl | h0
        · simp [spn] at e
        · rw [← hc, hx.2.2.2 x.2 hx.2.1 (Int.le_refl _)] at h0; cases h0
  | d + 1, h => by
    have ih := spn_run H lo k h0 d (fun m h1 h2 => h m h1 (by omega))
    show (if H (lo + ((k + (d + 1) : Nat) : Int)) = true then more (spn H lo (k + (d + 1))) _ else _) = _
    rw [if_pos (h _ (by omega) (by omega)), show k + (d + 1) = k + d + 1 from rfl, ih, more_snoc, if_pos (by simp; omega)]
    simp; omega

theorem tot_pos : ∀ (l : List (Int × Int)), (∀ y ∈ l, y.1 ≤ y.2) → 0 ≤ tot l := by
  intro l
  induction h : l.length generalizing l with
  | zero => intro _; rw [List.length_eq_zero_iff.1 h]; exact Int.le_refl _
  | succ n ih =>
    intro hl
    rcases list_cases l with rfl | ⟨i, x, rfl⟩
    · exact Int.le_refl _
    · rw [tot_snoc]
      have := ih i (by simp at h; exact h) (fun y hy => hl y (by simp [hy]))
      have := hl x (by simp)
      omega
/-- The bounds of a list of runs. -/
theorem spn_tot {H : Int → Bool} {lo : Int} {k : Nat} {pre : List (Int × Int)} {x : Int × Int} (h : pre ++ [x] = spn H lo k) : 0 ≤ tot pre ∧ tot pre + (x.2 - x.1 + 1) ≤ k ∧ lo ≤ x.1 ∧ x.1 ≤ x.2 ∧ x.2 < lo + k := by
  have hx := spn_in H lo k x (by rw [← h]; simp)
  have h0 := tot_pos pre (fun y hy => (spn_in H lo k y (by rw [← h]; simp [hy])).2.1)
  have h1 := tot_spn H lo k
  have h2 := (cntH_bd H lo k).2
  rw [← h, tot_snoc] at h1
  exact ⟨h0, by omega, hx.1, hx.2.1, hx.2.2.1⟩

/-- The first run of what H holds of, within lo to hi: (a, b); both 2^40 if there is none. -/
def RunIs (H : Int → Prop) (lo hi a b : Int) : Prop :=
  (a = 1099511627776 ∧ b = 1099511627776 ∧ ∀ m, lo ≤ m → m ≤ hi → ¬ H m) ∨
  (lo ≤ a ∧ a ≤ b ∧ b ≤ hi ∧ (∀ m, lo ≤ m → m < a → ¬ H m) ∧ (∀ m, a ≤ m → m ≤ b → H m) ∧ (b = hi ∨ ¬ H (b + 1)))

/-- Where a sweep stands between two runs: k minutes from lo on are done. -/
def Stands (H : Int → Bool) (lo hi : Int) (k : Nat) : Prop := k = 0 ∨ lo + k = hi + 1 ∨ H (lo + k) = false
theorem stands_none {H : Int → Bool} {H' : Int → Prop} (he : ∀ m, H m = true ↔ H' m) {lo hi a b : Int} {k : Nat} (hk : lo + k ≤ hi + 1) (hr : RunIs H' (lo + k) hi a b) (hn : hi < a) :
    spn H lo k = spn H lo (hi + 1 - lo).toNat := by
  rcases hr with ⟨_, _, h⟩ | ⟨_, h1, h2, _⟩
  · have e : (hi + 1 - lo).toNat = k + (hi + 1 - lo - k).toNat := by omega
    rw [e, spn_gap H lo k _ (fun m h1 h2 => by
      have := h m h1 (by omega)
      rw [← he] at this
      simpa using this)]
  · omega
theorem stands_run {H : Int → Bool} {H' : Int → Prop} (he : ∀ m, H m = true ↔ H' m) {lo hi a b : Int} {k : Nat} (hk : lo + k ≤ hi) (hs : Stands H lo hi k) (hr : RunIs H' (lo + k) hi a b) (hn : a ≤ hi) (hbig : hi < 1099511627776) :
    lo + k ≤ a ∧ a ≤ b ∧ b ≤ hi ∧ spn H lo (b + 1 - lo).toNat = spn H lo k ++ [(a, b)] ∧ Stands H lo hi (b + 1 - lo).toNat := by
  have hf : ∀ m, ¬ H' m → H m = false := fun m h => by rw [← he] at h; simpa using h
  rcases hr with ⟨h, _, _⟩ | ⟨h1, h2, h3, h4, h5, h6⟩
  · omega
  · refine ⟨h1, h2, h3, ?_, ?_⟩
    · have ea : (a - lo).toNat = k + (a - lo - k).toNat := by omega
      have eb : (b + 1 - lo).toNat = (a - lo).toNat + (b - a).toNat + 1 := by omega
      have e0 : (a - lo).toNat = 0 ∨ H (lo + ((a - lo).toNat : Int) - 1) = false := by
        by_cases c : a = lo + k
        · subst c
          rcases hs with rfl | hs | hs
          · left; omega
          · omega
          · exact absurd (h5 _ (Int.le_refl _) h2) (by rw [← he, hs]; simp)
        · right
          exact hf _ (h4 _ (by omega) (by omega))
      rw [eb, spn_run H lo _ e0 _ (fun m q1 q2 => (he m).2 (h5 m (by omega) (by omega)))]
      congr 1
      · rw [ea, spn_gap H lo k _ (fun m q1 q2 => hf m (h4 m q1 (by omega)))]
      · congr 1
        apply Prod.ext <;> simp <;> omega
    · rcases h6 with h6 | h6
      · right; left; omega
      · right; right
        rw [show lo + ((b + 1 - lo).toNat : Int) = b + 1 by omega]
        exact hf _ h6

/-- Is an integer in a lot? -/
def Lot.hasB (x : Lot) (n : Int) : Bool := if x.kind then decide ((n - x.b) % x.a < x.c) else decide (x.a ≤ n ∧ n ≤ x.b)
theorem Lot.hasB_iff (x : Lot) (n : Int) : x.hasB n = true ↔ x.has n := by
  unfold Lot.hasB Lot.has inT
  split <;> simp
def setB (xs : List Lot) (n : Int) : Bool := xs.any fun x => x.hasB n
theorem setB_iff (xs : List Lot) (n : Int) : setB xs n = true ↔ ∃ x ∈ xs, x.has n := by
  unfold setB
  rw [List.any_eq_true]
  constructor
  · rintro ⟨x, h1, h2⟩; exact ⟨x, h1, (x.hasB_iff n).1 h2⟩
  · rintro ⟨x, h1, h2⟩; exact ⟨x, h1, (x.hasB_iff n).2 h2⟩
end Go.Proofs.YtlhgpeelenelbaaDoor
