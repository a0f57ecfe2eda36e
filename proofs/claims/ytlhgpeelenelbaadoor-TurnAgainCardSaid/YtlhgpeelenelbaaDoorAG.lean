/- The law TurnPeriods, its calls met by their contracts. -/
import Derived.Test.YtlhgpeelenelbaaDoorUF
import Derived.Test.YtlhgpeelenelbaaDoorE7
import Derived.Test.YtlhgpeelenelbaaDoorHB
namespace Go.Proofs.YtlhgpeelenelbaaDoor
open Go.RowKit

/-- A block of three cells. -/
def Tri (b : Nat) (x y z : Value) (W : World) : Prop := W.cell? ⟨b, 0, none⟩ = some x ∧ W.cell? ⟨b, 1, none⟩ = some y ∧ W.cell? ⟨b, 2, none⟩ = some z ∧ b < W.heap.size
theorem Tri.out {b : Nat} {x y z : Value} {W : World} (h : Tri b x y z W) : W.cell? ⟨b, 0, none⟩ = some x ∧ W.cell? ⟨b, 1, none⟩ = some y ∧ W.cell? ⟨b, 2, none⟩ = some z ∧ b < W.heap.size := h
theorem Tri.below {b : Nat} {x y z : Value} {W W' : World} (h : Tri b x y z W) (hb : Below W.heap.size W W') : Tri b x y z W' := by
  obtain ⟨h0, h1, h2, hl⟩ := h
  exact ⟨(hb.cell (p := ⟨b, 0, none⟩) hl).trans h0, (hb.cell (p := ⟨b, 1, none⟩) hl).trans h1, (hb.cell (p := ⟨b, 2, none⟩) hl).trans h2, Nat.lt_of_lt_of_le hl hb.size⟩
theorem Tri.new {W : World} {x y z : Value} (t : TypeId) : Tri W.heap.size x y z (W.alloc (.cells #[x, y, z] t)) := ⟨by simp [go_sem], by simp [go_sem], by simp [go_sem], by simp⟩
theorem RT.later {v : Value} {l : List T3} {W W' : World} (h : RT W.heap.size v l W) (hb : Below W.heap.size W W') : RT W'.heap.size v l W' := h.up hb.size hb
theorem RT.slice {B : Nat} {v : Value} {l : List T3} {W : World} (h : RT B v l W) : ∃ A n c, v = .slice A n c := by
  obtain ⟨A, c, rfl, _⟩ := h
  exact ⟨_, _, _, rfl⟩
theorem rm_of {A : Option Addr} {n c : Nat} {l : List T3} {W : World} (h : RT W.heap.size (.slice A n c) l W) : RM W.heap.size (.agg #[.slice A n c, .slice none 0 0]) l [] W :=
  ⟨A, n, c, none, 0, 0, rfl, h, rs_nil _ _⟩
def SoonPost (w : World) (e : Ending) (w' : World) : Prop := (∃ b, e = .returned (.bool b)) ∧ Below w.heap.size w w'

set_option maxHeartbeats 4000000 in
set_option maxRecDepth 100000 in
theorem periods_no (hsan : ∀ W, Calls Tryd.prog 16 #[] W fun e w' => e = .returned (.bool true) ∧ Below W.heap.size W w') (A A' : Option Addr) (k c k' c' : Nat) (w : World) (f1 : fewB k k' = false) :
    Calls Tryd.prog 8 #[.agg #[.slice A k c, .slice A' k' c']] w fun e w' => e = .returned (.bool true) ∧ Below w.heap.size w w' := by
  have HS := Lib.hid hsan
  have S0 := Lib.hid (NSd.new (w := w) (v0 := .slice A k c) (v1 := .slice A' k' c') 25)
  have F1 := Lib.hid fun W => few_any A A' k c k' c' W
  rw [f1] at F1
  clear hsan f1
  go_enter Tryd.func8, Tryd.ntmps8
  go_wp2_with fail
  refine (F1.out _).mono ?_
  rintro e w1 ⟨rfl, h1⟩
  have S := Lib.hid (S0.out.below h1)
  clear h1 S0
  go_wp2_with fail
  refine (HS.out _).mono ?_
  rintro e w2 ⟨rfl, h2⟩
  have S := Lib.hid (S.out.below h2)
  clear h2
  go_wp2_with fail
  go_ret
  exact ⟨rfl, S.out.bel⟩

set_option maxHeartbeats 8000000 in
set_option maxRecDepth 100000 in
theorem periods_yes (hsan : ∀ W, Calls Tryd.prog 16 #[] W fun e w' => e = .returned (.bool true) ∧ Below W.heap.size W w') (A A' : Option Addr) (k c k' c' : Nat) (ts : List T3) (ss : List S2) (w : World) (h : RM w.heap.size (.agg #[.slice A k c, .slice A' k' c']) ts ss w) (f1 : fewB k k' = true) :
    Calls Tryd.prog 8 #[.agg #[.slice A k c, .slice A' k' c']] w fun e w' => e = .returned (.bool true) ∧ Below w.heap.size w w' := by
  have HS := Lib.hid hsan
  have S0 := Lib.hid (NSd.new (w := w) (v0 := .slice A k c) (v1 := .slice A' k' c') 25)
  obtain ⟨ck, hc⟩ := CheckIs.exists_ ts ss
  have F1 := Lib.hid fun W => few_any A A' k c k' c' W
  rw [f1] at F1
  have C0 : Hid (∀ W, NSd w (.slice A k c) (.slice A' k' c') W → Calls Tryd.prog 45 #[.agg #[.slice A k c, .slice A' k' c'], .int .i64 2520] W (SoonPost W)) := Lib.hid fun W S => soon_any _ ts ss ck 2520 W (h.up S.siz S.bel) hc
  have C1 := Lib.hid fun W (S : NSd w (.slice A k c) (.slice A' k' c') W) => period_any _ ts ss ck W (h.up S.siz S.bel) hc
  have C2 := Lib.hid fun W (S : NSd w (.slice A k c) (.slice A' k' c') W) => rperiod_any _ ts ss ck W (h.up S.siz S.bel) hc
  have C3 := Lib.hid fun W (S : NSd w (.slice A k c) (.slice A' k' c') W) => fewest_any _ ts ss ck W (h.up S.siz S.bel) hc
  have C4 := Lib.hid fun W (S : NSd w (.slice A k c) (.slice A' k' c') W) => rfewest_any _ ts ss ck W (h.up S.siz S.bel) hc
  clear hsan h hc f1
  go_enter Tryd.func8, Tryd.ntmps8
  go_wp2_with fail
  refine (F1.out _).mono ?_
  rintro e w1 ⟨rfl, h1⟩
  have S := Lib.hid (S0.out.below h1)
  clear h1 S0
  obtain ⟨t0, t1, t2, _⟩ := S.out.out
  go_wp2_with fail
  refine (C0.out _ S.out).mono ?_
  rintro e w2 ⟨⟨b, rfl⟩, h2⟩
  have S := Lib.hid (S.out.below h2)
  clear h2 t0 t1 t2 C0
  cases b
  · go_wp2_with fail
    refine (HS.out _).mono ?_
    rintro e w3 ⟨rfl, h3⟩
    have S := Lib.hid (S.out.below h3)
    clear h3
    go_wp2_with fail
    go_ret
    exact ⟨rfl, S.out.bel⟩
  · obtain ⟨t0, t1, t2, _⟩ := S.out.out
    go_wp2_with fail
    refine (C1.out _ S.out).mono ?_
    rintro e w3 ⟨r, d, rfl, hp, h3⟩
    have S := Lib.hid (S.out.below h3)
    have HP := Lib.hid hp
    clear h3 hp t0 t1 t2 C1
    obtain ⟨t0, t1, t2, _⟩ := S.out.out
    go_wp2_with fail
    refine (C2.out _ S.out).mono ?_
    rintro e w4 ⟨r', d', rfl, hp, h4⟩
    obtain ⟨rfl, rfl⟩ := HP.out.unique hp
    have S := Lib.hid ((S.out.below h4).alloc (.cells #[.int .i64 r, .int .i64 d] 63))
    have T5 := Lib.hid (Two.new (W := w4) (x := .int .i64 r) (y := .int .i64 d) 63)
    clear h4 hp HP t0 t1 t2 C2
    obtain ⟨t0, t1, t2, _⟩ := S.out.out
    go_wp2_with fail
    refine (C3.out _ S.out).mono ?_
    rintro e w5 ⟨v, l, d2, rfl, r1, h5, hf⟩
    obtain ⟨X, nx, cx, rfl⟩ := r1.slice
    have ba := (Below.refl w5.heap.size w5).alloc (Nat.le_refl _) (.cells #[.slice X nx cx, .slice none 0 0] 25)
    have S := Lib.hid ((S.out.below h5).below ba)
    have T5 := Lib.hid ((T5.out.below h5).below ba)
    have T6 := Lib.hid (Two.new (W := w5) (x := .slice X nx cx) (y := .slice none 0 0) 25)
    have R1 := Lib.hid (r1.later ba)
    have HF := Lib.hid hf
    clear h5 hf r1 ba t0 t1 t2 C3
    obtain ⟨t0, t1, t2, _⟩ := S.out.out
    go_wp2_with fail
    refine (C4.out _ S.out).mono ?_
    rintro e w6 ⟨v', l', d2', rfl, r2, h6, hf⟩
    obtain ⟨Y, ny, cy, rfl⟩ := r2.slice
    obtain ⟨rfl, rfl⟩ := HF.out.unique hf
    have ba := (Below.refl w6.heap.size w6).alloc (Nat.le_refl _) (.cells #[.slice Y ny cy, .slice none 0 0, .int .i64 d2] 68)
    have S := Lib.hid ((S.out.below h6).below ba)
    have T5 := Lib.hid ((T5.out.below h6).below ba)
    have T6 := Lib.hid ((T6.out.below h6).below ba)
    have T8 := Lib.hid (Tri.new (W := w6) (x := .slice Y ny cy) (y := .slice none 0 0) (z := .int .i64 d2) 68)
    have R1 := Lib.hid ((R1.out.later h6).later ba)
    have R2 := Lib.hid (r2.later ba)
    clear h6 hf r2 ba t0 t1 t2 C4 HF
    go_wp2_with fail
    refine (HS.out _).mono ?_
    rintro e w7 ⟨rfl, h7⟩
    have S := Lib.hid (S.out.below h7)
    have T5 := Lib.hid (T5.out.below h7)
    have T6 := Lib.hid (T6.out.below h7)
    have T8 := Lib.hid (T8.out.below h7)
    have R1 := Lib.hid (R1.out.later h7)
    have R2 := Lib.hid (R2.out.later h7)
    clear h7
    obtain ⟨a0, a1, _⟩ := T5.out
    obtain ⟨b0, b1, _⟩ := T6.out
    obtain ⟨c0, c1, c2, _⟩ := T8.out.out
    go_wp2_with fail
    refine (sameSet_eq _ _ _ _ _ (rm_of R1.out) (rm_of R2.out)).mono ?_
    rintro e w8 ⟨rfl, h8⟩
    have S := Lib.hid (S.out.below h8)
    have T8 := Lib.hid (T8.out.below h8)
    clear h8 a0 a1 b0 b1 c0 c1 c2
    obtain ⟨c0, c1, c2, _⟩ := T8.out.out
    go_wp2_with fail
    go_ret
    exact ⟨by simp, S.out.bel⟩

theorem turnPeriods_calls (hsan : ∀ W, Calls Tryd.prog 16 #[] W fun e w' => e = .returned (.bool true) ∧ Below W.heap.size W w') (A : Option Addr) (k c : Nat) (A' : Option Addr) (k' c' : Nat) (w : World) (ho : k ≤ 1000000000000 → k' ≤ 1000000000000 → ∃ ts ss, RM w.heap.size (.agg #[.slice A k c, .slice A' k' c']) ts ss w) :
    Calls Tryd.prog 8 #[.agg #[.slice A k c, .slice A' k' c']] w fun e w' => e = .returned (.bool true) ∧ Below w.heap.size w w' := by
  cases f1 : fewB k k' with
  | false => exact periods_no hsan A A' k c k' c' w f1
  | true =>
    have hk : k ≤ 30 ∧ k' ≤ 50 := by
      simp only [fewB, Bool.and_eq_true, Bool.or_eq_true, decide_eq_true_eq] at f1
      omega
    obtain ⟨ts, ss, h⟩ := ho (by omega) (by omega)
    exact periods_yes hsan A A' k c k' c' ts ss w h f1
end Go.Proofs.YtlhgpeelenelbaaDoor

/- Lists of spans in memory; small helpers of the laws over lists. -/
namespace Go.Proofs.YtlhgpeelenelbaaDoor
open Go.RowKit

theorem ite_intro {c : Prop} [Decidable c] {A B : Prop} (h : c) (ha : A) : if c then A else B := by rw [if_pos h]; exact ha
theorem ListIs.unique {d : Int} {full l l' : List S2} {c c' : Int} (h : ListIs d full l c) (h' : ListIs d full l' c') : l = l' ∧ c = c' := by
  rcases h with ⟨a, rfl, rfl⟩ | ⟨a, b, rfl, rfl⟩ | ⟨a, b, rfl, rfl⟩ <;> rcases h' with ⟨x, rfl, rfl⟩ | ⟨x, y, rfl, rfl⟩ | ⟨x, y, rfl, rfl⟩ <;> first | exact ⟨rfl, rfl⟩ | omega
theorem InIs.exists_ (c lo hi : Int) : ∃ d, InIs c lo hi d := by
  by_cases h : c = 0
  · by_cases h' : SOk lo hi
    · exact ⟨_, .inr (.inl ⟨h, h', rfl⟩)⟩
    · exact ⟨_, .inr (.inr ⟨h, h', rfl⟩)⟩
  · exact ⟨_, .inl ⟨h, rfl⟩⟩
theorem RS.later {v : Value} {l : List S2} {W W' : World} (h : RS W.heap.size v l W) (hb : Below W.heap.size W W') : RS W'.heap.size v l W' := h.up hb.size hb
theorem RS.slice {B : Nat} {v : Value} {l : List S2} {W : World} (h : RS B v l W) : ∃ A n c, v = .slice A n c := by
  obtain ⟨A, c, rfl, _⟩ := h
  exact ⟨_, _, _, rfl⟩
theorem RS.head {v : Value} {x1 x2 : Int} {l : List S2} {W : World} (h : RS W.heap.size v ((x1, x2) :: l) W) : ∃ b o n c, v = .slice (some ⟨b, o, none⟩) n c ∧ (0 : Int) < (n : Int) ∧ b < W.heap.size ∧ W.cell? ⟨b, o, none⟩ = some (.int .i64 x1) := by
  obtain ⟨A, c, rfl, _, hx⟩ := h
  obtain ⟨b, o, rfl, hb, hc⟩ := hx (by simp)
  have := (hc 0 x1 x2 rfl).1
  rw [Nat.zero_mul, Nat.add_zero] at this
  exact ⟨b, o, _, c, rfl, by simp <;> omega, hb, this⟩
theorem sameSpans_eq (va vb : Value) (a : List S2) (w : World) (ha : RS w.heap.size va a w) (hb : RS w.heap.size vb a w) :
    Calls Tryd.prog 42 #[va, vb] w fun e w' => e = .returned (.bool true) ∧ Below w.heap.size w w' := by
  have := sameSpans_any va vb a a w ha hb
  rwa [decide_eq_true rfl] at this
end Go.Proofs.YtlhgpeelenelbaaDoor

/- Plain mathematics: the fewest turns have the minutes of the set, in order. -/
namespace Go.Proofs.YtlhgpeelenelbaaDoor

theorem longG_ge {H : Int → Bool} {n : Int} : ∀ f t : Nat, t ≤ longG H n f t
  | 0, t => Nat.le_refl _
  | f + 1, t => by
    unfold longG
    split
    · exact Nat.le_trans (Nat.le_succ t) (longG_ge f (t + 1))
    · exact Nat.le_refl _
theorem longG_le {H : Int → Bool} {n : Int} : ∀ f t : Nat, longG H n f t ≤ t + f
  | 0, t => Nat.le_refl _
  | f + 1, t => by
    unfold longG
    split
    · have := longG_le (H := H) (n := n) f (t + 1); omega
    · omega
theorem longG_all {H : Int → Bool} {n : Int} : ∀ f t j : Nat, t ≤ j → j < longG H n f t → H (n + j) = true
  | 0, t, j, h1, h2 => by unfold longG at h2; omega
  | f + 1, t, j, h1, h2 => by
    unfold longG at h2
    split at h2
    · rename_i h
      by_cases c : j = t
      · subst c; exact h
      · exact longG_all f (t + 1) j (by omega) h2
    · omega
theorem longG_more {H : Int → Bool} {n : Int} : ∀ f t d : Nat, d < t + f → (∀ j : Nat, t ≤ j → j ≤ d → H (n + j) = true) → d < longG H n f t ∨ d < t
  | 0, t, d, h1, _ => .inr (by omega)
  | f + 1, t, d, h1, h2 => by
    by_cases c : d < t
    · exact .inr c
    · left
      unfold longG
      rw [if_pos (h2 t (Nat.le_refl _) (by omega))]
      rcases longG_more f (t + 1) d (by omega) (fun j j1 j2 => h2 j (by omega) j2) with h | h
      · exact h
      · have := longG_ge (H := H) (n := n) f (t + 1); omega
theorem longF_bd (H : Int → Bool) {p : Nat} (hp : 1 ≤ p) (n : Int) : 1 ≤ longF H p n ∧ longF H p n ≤ p := by
  have h1 := longG_ge (H := H) (n := n) (p - 1) 1
  have h2 := longG_le (H := H) (n := n) (p - 1) 1
  unfold longF
  omega
theorem mem_fewU {H : Int → Bool} {p : Nat} : ∀ {k : Nat} {x : T3}, x ∈ fewU H p k ↔ ∃ i : Nat, i < k ∧ H i = true ∧ (p = 1 ∨ H ((i : Int) + p - 1) = false) ∧ x = ((p : Int), (i : Int), (longF H p i : Int))
  | 0, x => by simp [fewU]
  | k + 1, x => by
    unfold fewU
    split
    · rename_i h
      rw [List.mem_append, mem_fewU (k := k)]
      constructor
      · rintro (⟨i, h1, h2, h3, h4⟩ | hx)
        · exact ⟨i, by omega, h2, h3, h4⟩
        · simp at hx
          exact ⟨k, by omega, h.1, h.2, hx⟩
      · rintro ⟨i, h1, h2, h3, h4⟩
        by_cases c : i < k
        · exact .inl ⟨i, c, h2, h3, h4⟩
        · obtain rfl : i = k := by omega
          exact .inr (by simp [h4])
    · rename_i h
      rw [mem_fewU (k := k)]
      constructor
      · rintro ⟨i, h1, h2, h3, h4⟩
        exact ⟨i, by omega, h2, h3, h4⟩
      · rintro ⟨i, h1, h2, h3, h4⟩
        by_cases c : i < k
        · exact ⟨i, c, h2, h3, h4⟩
        · obtain rfl : i = k := by omega
          exact absurd ⟨h2, h3⟩ h
theorem fewU_ok {H : Int → Bool} {p : Nat} (h1 : 1 ≤ p) (h2 : p ≤ 40320) : AllOk (fewU H p p) [] := ⟨fun t ht => by
  obtain ⟨i, i1, i2, i3, rfl⟩ := mem_fewU.1 ht
  have := longF_bd H h1 (i : Int)
  refine ⟨?_, ?_, ?_, ?_, ?_, ?_⟩ <;> simp only <;> omega, fun s hs => by cases hs⟩
/-- Where a run begins. -/
theorem run_begin {H : Int → Bool} {p : Nat} (hp : 1 ≤ p) (hP : PerH H p) {n : Int} (hn : H n = true) (hF : ∃ m, H m = false) : ∃ d : Nat, d + 1 ≤ p ∧ H (n - d - 1) = false ∧ ∀ j : Nat, j ≤ d → H (n - j) = true := by
  obtain ⟨m, hm⟩ := hF
  have e0 : 0 ≤ (n - m) % p := Int.emod_nonneg _ (by omega)
  have e1 : (n - m) % p < p := Int.emod_lt_of_pos _ (by omega)
  have hd : H (n - ((n - m) % p)) = false := by
    have h := hP.mulZ (n - ((n - m) % p)) (-((n - m) / p))
    have e := Int.emod_add_mul_ediv (n - m) p
    rw [Int.mul_neg, show n - (n - m) % p + -((p : Int) * ((n - m) / p)) = m by omega, hm] at h
    exact h.symm
  have hne : (n - m) % p ≠ 0 := fun e => by rw [e, Int.sub_zero, hn] at hd; cases hd
  obtain ⟨d, d1, d2, d3, d4⟩ := least_one (fun d : Nat => H (n - d) = false) ((n - m) % p).toNat (by omega) (by rw [show (((n - m) % (p : Int)).toNat : Int) = (n - m) % p by omega]; exact hd)
  obtain ⟨c, rfl⟩ : ∃ c, d = c + 1 := ⟨d - 1, by omega⟩
  refine ⟨c, by omega, by rw [show n - (c : Int) - 1 = n - ((c + 1 : Nat) : Int) by omega]; exact d3, fun j hj => ?_⟩
  rcases j with _ | j
  · simpa using hn
  · have := d4 (j + 1) (by omega) (by omega)
    simpa using this
theorem fewU_set {H : Int → Bool} {p : Nat} (hp : 1 ≤ p) (hP : PerH H p) (h1 : p = 1 → ∀ n, H n = true) (hF : p ≠ 1 → ∃ m, H m = false) (n : Int) : setB (lotsOf (fewU H p p) []) n = H n := by
  rw [Bool.eq_iff_iff, setB_iff]
  constructor
  · rintro ⟨x, hx, hh⟩
    simp [lotsOf] at hx
    obtain ⟨a, b, c, ht, rfl⟩ := hx
    obtain ⟨i, i1, i2, i3, e⟩ := mem_fewU.1 ht
    obtain ⟨rfl, rfl, rfl⟩ : a = (p : Int) ∧ b = (i : Int) ∧ c = (longF H p i : Int) := by simpa using e
    have hh' : (n - (i : Int)) % (p : Int) < (longF H p i : Int) := hh
    have e0 : 0 ≤ (n - (i : Int)) % p := Int.emod_nonneg _ (by omega)
    have ee := Int.emod_add_mul_ediv (n - (i : Int)) p
    have hq := hP.mulZ ((i : Int) + (n - (i : Int)) % p) ((n - (i : Int)) / p)
    rw [show (i : Int) + (n - (i : Int)) % p + (p : Int) * ((n - (i : Int)) / p) = n by omega] at hq
    rw [hq]
    by_cases c0 : (n - (i : Int)) % p = 0
    · rw [c0, Int.add_zero]; exact i2
    · have := longG_all (H := H) (n := (i : Int)) (p - 1) 1 ((n - (i : Int)) % p).toNat (by omega) (by unfold longF at hh'; omega)
      rwa [show ((((n - (i : Int)) % (p : Int)).toNat : Nat) : Int) = (n - (i : Int)) % p by omega] at this
  · intro hn
    by_cases c1 : p = 1
    · subst c1
      have h0 := h1 rfl
      refine ⟨lotOfT (1, 0, 1), ?_, ?_⟩
      · have : ((((1 : Nat) : Int), ((0 : Nat) : Int), (longF H 1 ((0 : Nat) : Int) : Int)) : T3) ∈ fewU H 1 1 := mem_fewU.2 ⟨0, by omega, h0 _, .inl rfl, rfl⟩
        have e : (longF H 1 ((0 : Nat) : Int) : Int) = 1 := by have := longF_bd H (Nat.le_refl 1) ((0 : Nat) : Int); omega
        rw [e] at this
        simp [lotsOf]
        exact ⟨_, _, _, this, rfl⟩
      · show (n - 0) % 1 < 1
        omega
    · obtain ⟨d, d1, d2, d3⟩ := run_begin hp hP hn (hF c1)
      have e0 : 0 ≤ (n - d) % p := Int.emod_nonneg _ (by omega)
      have e1 : (n - d) % p < p := Int.emod_lt_of_pos _ (by omega)
      obtain ⟨i, hi⟩ : ∃ i : Nat, (n - d) % p = i := ⟨((n - d) % p).toNat, by omega⟩
      have ee := Int.emod_add_mul_ediv (n - d) p
      have up : ∀ j : Int, H ((i : Int) + j) = H (n - d + j) := fun j => by
        have := hP.mulZ ((i : Int) + j) ((n - d) / p)
        rw [show (i : Int) + j + (p : Int) * ((n - d) / p) = n - d + j by omega] at this
        exact this.symm
      have hi1 : H (i : Int) = true := by
        have := up 0
        rw [Int.add_zero, Int.add_zero] at this
        rw [this]; exact d3 d (Nat.le_refl _)
      have hi2 : H ((i : Int) + p - 1) = false := by
        rw [show (i : Int) + p - 1 = (i : Int) + (-1) + p by omega, hP, up (-1), show n - (d : Int) + -1 = n - d - 1 by omega]
        exact d2
      have hl : d < longF H p i := by
        by_cases c0 : d = 0
        · have := longF_bd H hp (i : Int); omega
        · unfold longF
          rcases longG_more (H := H) (n := (i : Int)) (p - 1) 1 d (by omega) (fun j j1 j2 => by rw [up]; have := d3 (d - j) (by omega); rwa [show n - ((d - j : Nat) : Int) = n - d + j by omega] at this) with h | h
          · exact h
          · omega
      refine ⟨lotOfT ((p : Int), (i : Int), (longF H p i : Int)), ?_, ?_⟩
      · simp [lotsOf]
        exact ⟨_, _, _, mem_fewU.2 ⟨i, by omega, hi1, .inr hi2, rfl⟩, rfl⟩
      · show (n - (i : Int)) % (p : Int) < (longF H p i : Int)
        have : (n - (i : Int)) % p = d := by
          rw [show n - (i : Int) = d + p * ((n - d) / p) by omega, Int.add_mul_emod_self_left]
          exact Int.emod_eq_of_lt (by omega) (by omega)
        omega
/-- In order, all with one period. -/
theorem fewU_order {H : Int → Bool} {p : Nat} : ∀ k i : Nat, ∀ x : T3, (fewU H p k)[i]? = some x → x.1 = p ∧ x.2.1 < k ∧ (0 < i → ∃ y, (fewU H p k)[i - 1]? = some y ∧ y.2.1 < x.2.1)
  | 0, i, x, h => by simp [fewU] at h
  | k + 1, i, x, h => by
    have ih := fewU_order (H := H) (p := p) k
    unfold fewU at h ⊢
    split at h
    · rename_i hc
      rw [if_pos hc]
      by_cases hi : i < (fewU H p k).length
      · rw [List.getElem?_append_left hi] at h
        obtain ⟨a, b, c⟩ := ih i x h
        refine ⟨a, by omega, fun h0 => ?_⟩
        obtain ⟨y, hy, hlt⟩ := c h0
        exact ⟨y, by rw [List.getElem?_append_left (by omega)]; exact hy, hlt⟩
      · have hi' := (List.getElem?_eq_some_iff.1 h).1
        obtain rfl : i = (fewU H p k).length := by simp at hi'; omega
        simp at h
        subst h
        refine ⟨rfl, by show (k : Int) < ((k + 1 : Nat) : Int); omega, fun h0 => ?_⟩
        obtain ⟨y, hy⟩ : ∃ y, (fewU H p k)[(fewU H p k).length - 1]? = some y := ⟨_, List.getElem?_eq_getElem (by omega)⟩
        have := (ih _ y hy).2.1
        exact ⟨y, by rw [List.getElem?_append_left (by omega)]; exact hy, this⟩
    · rename_i hc
      rw [if_neg hc]
      obtain ⟨a, b, c⟩ := ih i x h
      exact ⟨a, by omega, c⟩
end Go.Proofs.YtlhgpeelenelbaaDoor

/- Whether a set comes again after some minutes. -/
namespace Go.Proofs.YtlhgpeelenelbaaDoor
open Go.RowKit

set_option maxHeartbeats 2000000 in
set_option maxRecDepth 100000 in
theorem comes_any (A A' : Option Addr) (k c k' c' : Nat) (ts : List T3) (ss : List S2) (a p : Int) (w : World) (h : RM w.heap.size (.agg #[.slice A k c, .slice A' k' c']) ts ss w) (hc : CheckIs ts ss 0)
    (a0 : 0 ≤ a) (a1 : a ≤ 100000) (p0 : 0 ≤ p) (p1 : p ≤ 100000) :
    Calls Tryd.prog 64 #[.agg #[.slice A k c, .slice A' k' c'], .int .i64 a, .int .i64 p] w (AgainPost (hasV ts ss) a p w) := by
  have CH := Lib.hid fun n W (S : NSd w (.slice A k c) (.slice A' k' c') W) => has_any A A' k c k' c' ts ss n W (h.up S.siz S.bel) hc
  have S0 := Lib.hid (NSd.new (w := w) (v0 := .slice A k c) (v1 := .slice A' k' c') 25)
  generalize hasV ts ss = H at *
  clear h hc
  go_enter Tryd.func64, Tryd.ntmps64
  go_wp2_with fail
  go_loopw [7] (fun u wr => ∃ n : Int, u = .int .i64 n ∧ 0 ≤ n ∧ n ≤ p ∧ (∀ i, 0 ≤ i → i < n → H i = H (i + a)) ∧ NSd w (.slice A k c) (.slice A' k' c') wr) (fun u _ => (p - intOf u).toNat)
  case atStart => exact ⟨0, rfl, by omega, p0, fun i _ _ => by omega, S0.out⟩
  case round =>
    obtain ⟨n, rfl, m0, m1, hl, S3⟩ := hrel
    have HL := Lib.hid hl
    have S := Lib.hid S3
    clear hl S3
    obtain ⟨t0, t1, t2, _⟩ := S.out.out
    by_cases hlt : n < p
    · have Ra := Lib.hid fun W S => CH.out n W S
      have Rb := Lib.hid fun W S => CH.out (n + a) W S
      obtain ⟨x, hx⟩ : ∃ x, H n = x := ⟨_, rfl⟩
      obtain ⟨y, hy⟩ : ∃ y, H (n + a) = y := ⟨_, rfl⟩
      rw [hx] at Ra
      rw [hy] at Rb
      have HX := Lib.hid hx
      have HY := Lib.hid hy
      have W1 : IntKind.i64.wrap (n + a) = n + a := IntWalk.i64_in _ (by omega)
      clear hx hy
      cases x <;> cases y
      all_goals
        go_wp2_with fail
        have S := Lib.hid (S.out.drew)
        clear t0 t1 t2
        obtain ⟨t0, t1, t2, _⟩ := S.out.out
        refine wp_region_held_drew (S := NS w (.slice A k c) (.slice A' k' c')) (by kernel_rfl) ?_ (fun hHeld => ?_)
        · exact NSd.out S.out
        refine takeW (i := 0) (d := some 13) (v := ?_) rfl rfl (by kernel_rfl) (by kernel_rfl) (by kernel_rfl) (fun _ _ _ h => h) (by rfl) ?_ (by assumption) ?_
        rotate_left
        · (intro w hSw; (try dsimp only at hSw); obtain ⟨q0, q1, q2, _⟩ := hSw; go_simp; try with_reducible rfl)
        try simp only [Act.put, List.setIfInBounds_toArray, List.set_cons_zero, List.set_cons_succ]
        refine takeW (i := 1) (d := some 14) (v := ?_) rfl rfl (by kernel_rfl) (by kernel_rfl) (by kernel_rfl) (fun _ _ _ h => h) (by rfl) ?_ (by assumption) ?_
        rotate_left
        · (intro w hSw; (try dsimp only at hSw); obtain ⟨q0, q1, q2, _⟩ := hSw; go_simp; try with_reducible rfl)
        try simp only [Act.put, List.setIfInBounds_toArray, List.set_cons_zero, List.set_cons_succ]
        refine takeW (i := 3) (d := some 16) (v := ?_) rfl rfl (by kernel_rfl) (by kernel_rfl) (by kernel_rfl) (fun _ _ _ h => h) (by rfl) ?_ (by assumption) ?_
        rotate_left
        · (intro w hSw; (try dsimp only at hSw); obtain ⟨q0, q1, q2, _⟩ := hSw; go_simp; try with_reducible rfl)
        try simp only [Act.put, List.setIfInBounds_toArray, List.set_cons_zero, List.set_cons_succ]
        refine takeW (i := 4) (d := some 17) (v := ?_) rfl rfl (by kernel_rfl) (by kernel_rfl) (by kernel_rfl) (fun _ _ _ h => h) (by rfl) ?_ (by assumption) ?_
        rotate_left
        · (intro w hSw; (try dsimp only at hSw); obtain ⟨q0, q1, q2, _⟩ := hSw; go_simp; try with_reducible rfl)
        try simp only [Act.put, List.setIfInBounds_toArray, List.set_cons_zero, List.set_cons_succ]
        refine takeW (i := 5) (d := some 18) (v := ?_) rfl rfl (by kernel_rfl) (by kernel_rfl) (by kernel_rfl) (fun _ _ _ h => h) (by rfl) ?_ (by assumption) ?_
        rotate_left
        · (intro w hSw; (try dsimp only at hSw); obtain ⟨q0, q1, q2, _⟩ := hSw; go_simp; try with_reducible rfl)
        try simp only [Act.put, List.setIfInBounds_toArray, List.set_cons_zero, List.set_cons_succ]
        refine takeW (i := 6) (d := some 19) (v := ?_) rfl rfl (by kernel_rfl) (by kernel_rfl) (by kernel_rfl) (fun _ _ _ h => h) (by rfl) ?_ (by assumption) ?_
        rotate_left
        · (intro w hSw; (try dsimp only at hSw); obtain ⟨q0, q1, q2, _⟩ := hSw; go_simp; try with_reducible rfl)
        try simp only [Act.put, List.setIfInBounds_toArray, List.set_cons_zero, List.set_cons_succ]
        refine wpAnyH_ready (rs := [2]) (by kernel_rfl) (by simp) ?_
        refine AllReadyH.cons rfl (fun K hK => ?_) AllReadyH.nil
        go_simp
        refine (Ra.out _ S.out).mono ?_
        rintro e w4 ⟨rfl, b1⟩
        have S := Lib.hid (S.out.below b1)
        clear b1
        refine hK.out _ _ ?_ (fun hHeld => ?_)
        · exact NSd.out S.out
        clear hK K
        try simp only [Act.put, List.setIfInBounds_toArray, List.set_cons_zero, List.set_cons_succ]
        refine wpAnyH_ready (rs := [7]) (by kernel_rfl) (by simp) ?_
        refine AllReadyH.cons rfl (fun K hK => ?_) AllReadyH.nil
        go_simp
        refine (Rb.out _ S.out).mono ?_
        rintro e w4 ⟨rfl, b1⟩
        have S := Lib.hid (S.out.below b1)
        clear b1
        refine hK.out _ _ ?_ (fun hHeld => ?_)
        · exact NSd.out S.out
        clear hK K
        try simp only [Act.put, List.setIfInBounds_toArray, List.set_cons_zero, List.set_cons_succ]
        refine takeW (i := 8) (d := some 21) (v := ?_) rfl rfl (by kernel_rfl) (by kernel_rfl) (by kernel_rfl) (fun _ _ _ h => h) (by rfl) ?_ (by assumption) ?_
        rotate_left
        · (intro w hSw; (try dsimp only at hSw); obtain ⟨q0, q1, q2, _⟩ := hSw; go_simp; try with_reducible rfl)
        try simp only [Act.put, List.setIfInBounds_toArray, List.set_cons_zero, List.set_cons_succ]
        refine wpAnyH_done (by kernel_rfl) ?_ _
        clear t0 t1 t2
        obtain ⟨t0, t1, t2, _⟩ := S.out.out
        go_wp2_with fail
        first
          | (go_ret
             exact ⟨false, rfl, ⟨fun h => (by cases h), fun h => (by have := h n m0 hlt; rw [HX.out, HY.out] at this; cases this)⟩, S.out.bel⟩)
          | (go_roundw
             case rel => exact ⟨n + 1, rfl, by omega, by omega, fun i i0 i1 => (by
               by_cases c : i < n
               · exact HL.out i i0 c
               · obtain rfl : i = n := by omega
                 rw [HX.out, HY.out]), S.out⟩
             case measure => show (p - (n + 1)).toNat < (p - n).toNat; omega)
    · go_wp2_with fail
      go_ret
      exact ⟨true, rfl, ⟨fun _ i i0 i1 => HL.out i i0 (by omega), fun _ => rfl⟩, S.out.bel⟩
end Go.Proofs.YtlhgpeelenelbaaDoor

/- Plain mathematics of the law about what comes again: the least period has no lesser divisor; how many runs there are; the period of the fewest turns. -/
namespace Go.Proofs.YtlhgpeelenelbaaDoor

theorem hasV_in {ts : List T3} {ss : List S2} {n : Int} (h0 : 0 ≤ n) (h1 : n ≤ 1048576) : hasV ts ss n = setB (lotsOf ts ss) n := by
  have h : (0 ≤ n ∧ n ≤ 1048576) := ⟨h0, h1⟩
  simp [hasV, mokB, MOk, h]
theorem perH_of_round {H : Int → Bool} {p d : Int} (hp : 1 ≤ p) (hP : PerH H p) (h : ∀ n, 0 ≤ n → n < p → H n = H (n + d)) : PerH H d := fun n => by
  have e0 : 0 ≤ n % p := Int.emod_nonneg _ (by omega)
  have e1 : n % p < p := Int.emod_lt_of_pos _ (by omega)
  have ee := Int.emod_add_mul_ediv n p
  have a := hP.mulZ (n % p + d) (n / p)
  rw [show n % p + d + p * (n / p) = n + d by omega] at a
  rw [a, ← h (n % p) e0 e1, hP.mod]
/-- What Period without an error says. -/
theorem perIs_ok {ts : List T3} {ss : List S2} {c r : Int} (h : PerIs ts ss c r 0) (hc : CheckIs ts ss c) :
    ∃ p : Nat, r = p ∧ 1 ≤ p ∧ p ≤ 40320 ∧ c = 0 ∧ ss = [] ∧ ts ≠ [] ∧ AllOk ts [] ∧ PerH (setB (lotsOf ts ss)) p ∧ (∀ q : Nat, 1 ≤ q → q < p → p % q = 0 → ¬ PerH (setB (lotsOf ts ss)) q) := by
  rcases h with ⟨h | ⟨_, _, h⟩, _⟩ | ⟨_, _, _, _, _, h⟩ | ⟨rfl, rfl, ht, ho, l1, l2, -, p, rfl, p1, p2, p3, p4⟩
  · exact absurd h.2.symm h.1
  · omega
  · omega
  · obtain ⟨k1, k2, k3⟩ := checkIs_ok hc
    have hl : (roundOf ts).length = (lcmS ts).toNat := by unfold roundOf; rw [marks_len]
    have hP : PerH (setB (lotsOf ts [])) ((lcmS ts).toNat : Nat) := fun n => by
      have := set_again k3 n 1
      rw [Int.mul_one] at this
      rwa [show (((lcmS ts).toNat : Nat) : Int) = lcmS ts by omega]
    obtain ⟨hm, hp⟩ := (repB_iff hP p1 (by omega)).1 p3
    refine ⟨p, rfl, p1, by omega, rfl, rfl, ht, k3, hp, fun q q1 q2 qm hq => p4 q q1 q2 ?_⟩
    refine (repB_iff hP q1 (by omega)).2 ⟨?_, hq⟩
    exact Nat.mod_eq_zero_of_dvd (Nat.dvd_trans (Nat.dvd_of_mod_eq_zero qm) (Nat.dvd_of_mod_eq_zero hm))
/-- How many runs begin among the first k. -/
def runU (H : Int → Bool) (p k : Nat) : Nat := if p = 1 then 0 else (fewU H p k).length
theorem runU_zero (H : Int → Bool) (p : Nat) : runU H p 0 = 0 := by unfold runU; split <;> rfl
theorem runU_yes {H : Int → Bool} {p k : Nat} (hp : 1 ≤ p) (hP : PerH H p) (h1 : H ((k : Int) + p) = true) (h2 : H ((k : Int) + p - 1) = false) : runU H p (k + 1) = runU H p k + 1 := by
  have a : H k = true := by rw [← hP]; exact h1
  unfold runU
  split
  · rename_i e
    subst e
    rw [show (k : Int) + ((1 : Nat) : Int) - 1 = k by omega, a] at h2
    cases h2
  · conv => lhs; unfold fewU
    rw [if_pos ⟨a, .inr h2⟩]
    simp
theorem runU_no {H : Int → Bool} {p k : Nat} (hP : PerH H p) (h : H ((k : Int) + p) = false ∨ H ((k : Int) + p - 1) = true) : runU H p (k + 1) = runU H p k := by
  unfold runU
  split
  · rfl
  · rename_i e
    conv => lhs; unfold fewU
    rw [if_neg]
    rintro ⟨a, b⟩
    rw [← hP] at a
    rcases h with h | h
    · rw [h] at a; cases a
    · rcases b with b | b
      · exact e b
      · rw [h] at b; cases b
theorem runU_le (H : Int → Bool) (p k : Nat) : runU H p k ≤ k := by
  unfold runU
  split
  · omega
  · exact fewU_len H p k
/-- A lone period: the runs are the fewest turns. -/
theorem runU_max {H : Int → Bool} {p : Nat} (h0 : 0 < (fewU H p p).length) : ((fewU H p p).length : Int) = max 1 (runU H p p : Int) := by
  unfold runU
  split
  · rename_i e
    subst e
    have := fewU_len H 1 1
    omega
  · omega
theorem runU_many {H : Int → Bool} {p : Nat} (h : 24 < (fewU H p p).length) : 24 < runU H p p := by
  unfold runU
  split
  · rename_i e
    subst e
    have := fewU_len H 1 1
    omega
  · exact h
theorem lcmF_self {p : Int} (hp : 1 ≤ p) : lcmF p p = p := by
  unfold lcmF
  rw [Int.gcd_self, show ((p.natAbs : Nat) : Int) = p by omega, Int.ediv_self (by omega)]
  omega
theorem lcmF_one (p : Int) : lcmF 1 p = p := by
  unfold lcmF
  simp
theorem lcm_fold {p : Int} (hp : 1 ≤ p) : ∀ (l : List T3) (a : Int), a = 1 ∨ a = p → (∀ t ∈ l, t.1 = p) → (a = p ∨ l ≠ []) → l.foldl (fun a t => lcmF a t.1) a = p
  | [], a, ha, h, hn => by
    rcases hn with h | h
    · exact h
    · exact absurd rfl h
  | t :: l, a, ha, h, hn => by
    have e := h t (List.mem_cons_self ..)
    show l.foldl (fun a t => lcmF a t.1) (lcmF a t.1) = p
    have e2 : lcmF a t.1 = p := by
      rw [e]
      rcases ha with rfl | rfl
      · exact lcmF_one p
      · exact lcmF_self hp
    rw [e2]
    exact lcm_fold hp l p (.inr rfl) (fun t ht => h t (List.mem_cons_of_mem _ ht)) (.inl rfl)
theorem lcm_same {p : Int} (hp : 1 ≤ p) (l : List T3) (h : ∀ t ∈ l, t.1 = p) (hn : l ≠ []) : lcmS l = p := lcm_fold hp l 1 (.inl rfl) h (.inr hn)
/-- The fewest turns of a set that has a minute are not none. -/
theorem fewU_some {ts : List T3} {p : Nat} (hok : AllOk ts []) (ht : ts ≠ []) (hp : 1 ≤ p) (hs : ∀ n, setB (lotsOf (fewU (setB (lotsOf ts [])) p p) []) n = setB (lotsOf ts []) n) : fewU (setB (lotsOf ts [])) p p ≠ [] := by
  intro e
  obtain ⟨n, hn⟩ := set_some hok ht
  rw [← hs, e] at hn
  simp [lotsOf, setB] at hn
/-- The period of the fewest turns is the period of the set. -/
theorem few_period {H : Int → Bool} {p : Nat} (hp : 1 ≤ p) (hp2 : p ≤ 40320) (hP : PerH H p) (hs : setB (lotsOf (fewU H p p) []) = H) (hn : fewU H p p ≠ []) (hmin : ∀ q : Nat, 1 ≤ q → q < p → p % q = 0 → ¬ PerH H q)
    {r d : Int} (h : PerIs (fewU H p p) [] 0 r d) : r = p ∧ d = 0 := by
  have hall : ∀ t ∈ fewU H p p, t.1 = (p : Int) := fun t ht => by
    obtain ⟨i, _, _, _, rfl⟩ := mem_fewU.1 ht
    rfl
  have hL := lcm_same (p := (p : Int)) (by omega) _ hall hn
  rcases h with ⟨h | ⟨_, h, _⟩, _⟩ | ⟨_, _, _, ⟨k, k1, k2⟩, _⟩ | ⟨_, _, _, _, _, _, rfl, q, rfl, q1, q2, q3, q4⟩
  · exact absurd rfl h.1
  · rcases h with h | h
    · exact absurd rfl h
    · exact absurd h hn
  · exfalso
    by_cases e : (fewU H p p).take k = []
    · rw [e] at k2
      simp [lcmS] at k2
    · rw [lcm_same (p := (p : Int)) (by omega) _ (fun t ht => hall t (List.mem_of_mem_take ht)) e] at k2
      omega
  · have hr : roundOf (fewU H p p) = marks p H := by
      unfold roundOf
      rw [hL, hs]
      simp
    rw [hr] at q2 q3 q4
    rw [marks_len] at q2
    obtain ⟨hm, hq⟩ := (repB_iff hP q1 q2).1 q3
    have : q = p := by
      rcases Nat.lt_or_ge q p with c | c
      · exact absurd hq (hmin q q1 c hm)
      · omega
    exact ⟨by rw [this], rfl⟩
end Go.Proofs.YtlhgpeelenelbaaDoor

/- The law TurnAgain, its calls met by their contracts. -/
namespace Go.Proofs.YtlhgpeelenelbaaDoor
open Go.RowKit

/-- What the law holds on to: the set asked, the fewest turns and the row in which they lie. -/
def AgS (w : World) (v0 v1 : Value) (b : Nat) (X : Option Addr) (nx cx : Nat) (l : List T3) (W : World) : Prop := NSd w v0 v1 W ∧ Two b (.slice X nx cx) (.slice none 0 0) W ∧ RT W.heap.size (.slice X nx cx) l W
section
variable {w W W' : World} {v0 v1 : Value} {b : Nat} {X : Option Addr} {nx cx : Nat} {l : List T3}
theorem AgS.below (h : AgS w v0 v1 b X nx cx l W) (hb : Below W.heap.size W W') : AgS w v0 v1 b X nx cx l W' := ⟨h.1.below hb, h.2.1.below hb, h.2.2.later hb⟩
theorem AgS.drew (h : AgS w v0 v1 b X nx cx l W) : AgS w v0 v1 b X nx cx l W.drew := h.below (Below.refl _ _).drew
theorem AgS.ns (h : AgS w v0 v1 b X nx cx l W) : NSd w v0 v1 W := h.1
theorem AgS.bel (h : AgS w v0 v1 b X nx cx l W) : Below w.heap.size w W := h.1.bel
theorem AgS.two (h : AgS w v0 v1 b X nx cx l W) : W.cell? ⟨b, 0, none⟩ = some (.slice X nx cx) ∧ W.cell? ⟨b, 1, none⟩ = some (.slice none 0 0) := ⟨h.2.1.1, h.2.1.2.1⟩
theorem AgS.rt (h : AgS w v0 v1 b X nx cx l W) : RT W.heap.size (.slice X nx cx) l W := h.2.2
end

set_option maxHeartbeats 4000000 in
set_option maxRecDepth 100000 in
theorem again_no (hsan : ∀ W, Calls Tryd.prog 16 #[] W fun e w' => e = .returned (.bool true) ∧ Below W.heap.size W w') (A A' : Option Addr) (k c k' c' : Nat) (sm : Int) (w : World) (f1 : fewB k k' = false) :
    Calls Tryd.prog 13 #[.agg #[.slice A k c, .slice A' k' c'], .int .u16 sm] w fun e w' => e = .returned (.bool true) ∧ Below w.heap.size w w' := by
  have HS := Lib.hid hsan
  have S0 := Lib.hid (NSd.new (w := w) (v0 := .slice A k c) (v1 := .slice A' k' c') 25)
  have F1 := Lib.hid fun W => few_any A A' k c k' c' W
  rw [f1] at F1
  clear hsan f1
  go_enter Tryd.func13, Tryd.ntmps13
  go_wp2_with fail
  refine (F1.out _).mono ?_
  rintro e w1 ⟨rfl, h1⟩
  have S := Lib.hid (S0.out.below h1)
  clear h1 S0
  go_wp2_with fail
  refine (HS.out _).mono ?_
  rintro e w2 ⟨rfl, h2⟩
  have S := Lib.hid (S.out.below h2)
  clear h2
  go_wp2_with fail
  go_ret
  exact ⟨rfl, S.out.bel⟩

set_option maxHeartbeats 8000000 in
set_option maxRecDepth 100000 in
/-- Where Period returns an error, or the set does not come again soon. -/
theorem again_err (hsan : ∀ W, Calls Tryd.prog 16 #[] W fun e w' => e = .returned (.bool true) ∧ Below W.heap.size W w') (A A' : Option Addr) (k c k' c' : Nat) (sm : Int) (r d : Int) (w : World) (hd : d ≠ 0)
    (F1 : Hid (∀ W, Calls Tryd.prog 15 #[.agg #[.slice A k c, .slice A' k' c']] W fun e w' => e = .returned (.bool true) ∧ Below W.heap.size W w'))
    (C0 : Hid (∀ W, NSd w (.slice A k c) (.slice A' k' c') W → Calls Tryd.prog 45 #[.agg #[.slice A k c, .slice A' k' c'], .int .i64 2520] W (SoonPost W)))
    (C1 : Hid (∀ W, NSd w (.slice A k c) (.slice A' k' c') W → Calls Tryd.prog 46 #[.agg #[.slice A k c, .slice A' k' c']] W fun e w' => e = .returned (.tuple #[.int .i64 r, .int .i64 d]) ∧ Below W.heap.size W w'))
    (C3 : Hid (∀ W, NSd w (.slice A k c) (.slice A' k' c') W → Calls Tryd.prog 48 #[.agg #[.slice A k c, .slice A' k' c']] W fun e w' => ∃ X nx cx, e = .returned (.tuple #[.agg #[.slice X nx cx, .slice none 0 0], .int .i64 d]) ∧ Below W.heap.size W w')) :
    Calls Tryd.prog 13 #[.agg #[.slice A k c, .slice A' k' c'], .int .u16 sm] w fun e w' => e = .returned (.bool true) ∧ Below w.heap.size w w' := by
  have HS := Lib.hid hsan
  have S0 := Lib.hid (NSd.new (w := w) (v0 := .slice A k c) (v1 := .slice A' k' c') 25)
  have hd0 : (d != 0) = true := by rw [bne_iff_ne]; exact hd
  clear hsan hd
  go_enter Tryd.func13, Tryd.ntmps13
  go_wp2_with fail
  refine (F1.out _).mono ?_
  rintro e w1 ⟨rfl, h1⟩
  have S := Lib.hid (S0.out.below h1)
  clear h1 S0
  obtain ⟨t0, t1, t2, _⟩ := S.out.out
  go_wp2_with fail
  refine (C0.out _ S.out).mono ?_
  rintro e w2 ⟨⟨b, rfl⟩, h2⟩
  have S := Lib.hid (S.out.below h2)
  clear h2 t0 t1 t2 C0
  cases b
  · go_wp2_with fail
    refine (HS.out _).mono ?_
    rintro e w3 ⟨rfl, h3⟩
    have S := Lib.hid (S.out.below h3)
    clear h3
    go_wp2_with fail
    go_ret
    exact ⟨rfl, S.out.bel⟩
  · obtain ⟨t0, t1, t2, _⟩ := S.out.out
    go_wp2_with fail
    refine (C1.out _ S.out).mono ?_
    rintro e w3 ⟨rfl, h3⟩
    have S := Lib.hid (S.out.below h3)
    clear h3 t0 t1 t2 C1
    obtain ⟨t0, t1, t2, _⟩ := S.out.out
    go_wp2_with fail
    refine (C3.out _ S.out).mono ?_
    rintro e w5 ⟨X, nx, cx, rfl, h5⟩
    have S := Lib.hid ((S.out.below h5).alloc (.cells #[.slice X nx cx, .slice none 0 0] 25))
    clear h5 t0 t1 t2 C3
    go_wp2_with fail
    refine (HS.out _).mono ?_
    rintro e w7 ⟨rfl, h7⟩
    have S := Lib.hid (S.out.below h7)
    clear h7
    go_wp2_with fail
    go_ret
    exact ⟨by simp, S.out.bel⟩
end Go.Proofs.YtlhgpeelenelbaaDoor
