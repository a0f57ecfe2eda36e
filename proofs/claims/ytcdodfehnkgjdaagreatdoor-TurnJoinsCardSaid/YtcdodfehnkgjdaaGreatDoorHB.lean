/- Contract of few. -/
import Derived.Test.YtcdodfehnkgjdaaGreatDoorJK
import Derived.Test.YtcdodfehnkgjdaaGreatDoorL1
namespace Go.Proofs.YtcdodfehnkgjdaaGreatDoor
open Go.RowKit

def fewB (n n' : Nat) : Bool := (decide (n ≤ 6) || decide (24 < n) && decide (n ≤ 30)) && (decide (n' ≤ 8) || decide (40 < n') && decide (n' ≤ 50))
set_option maxHeartbeats 4000000 in
set_option maxRecDepth 100000 in
theorem few_any (A A' : Option Addr) (n c n' c' : Nat) (w : World) :
    Calls Tryz.prog 11 #[.agg #[.slice A n c, .slice A' n' c']] w fun e w' => e = .returned (.bool (fewB n n')) ∧ Below w.heap.size w w' := by
  obtain ⟨r, hr⟩ : ∃ r, fewB n n' = r := ⟨_, rfl⟩
  rw [hr]
  have h1 : (n : Int) ≤ 6 ∨ (6 < (n : Int) ∧ (n : Int) ≤ 24) ∨ (6 < (n : Int) ∧ 24 < (n : Int) ∧ (n : Int) ≤ 30) ∨ (6 < (n : Int) ∧ 24 < (n : Int) ∧ 30 < (n : Int)) := by omega
  have h2 : (n' : Int) ≤ 8 ∨ (8 < (n' : Int) ∧ (n' : Int) ≤ 40) ∨ (8 < (n' : Int) ∧ 40 < (n' : Int) ∧ (n' : Int) ≤ 50) ∨ (8 < (n' : Int) ∧ 40 < (n' : Int) ∧ 50 < (n' : Int)) := by omega
  have HV := Lib.hid hr.symm
  clear hr
  rcases h1 with a1 | ⟨a1, a2⟩ | ⟨a1, a2, a3⟩ | ⟨a1, a2, a3⟩ <;> rcases h2 with b1 | ⟨b1, b2⟩ | ⟨b1, b2, b3⟩ | ⟨b1, b2, b3⟩
  all_goals
    go_enter Tryz.func11, Tryz.ntmps11
    go_wp2_with fail
    go_ret
    exact ⟨by rw [HV.out]; cases hq : fewB n n' <;> first | rfl | (exact congrArg Ending.returned (congrArg Value.bool (decide_eq_false (by omega)))) | (exact congrArg Ending.returned (congrArg Value.bool (show decide ((n' : Int) ≤ 50) = false from decide_eq_false (by omega)))) | (show Ending.returned (Value.bool _) = _; simp; omega) | (exfalso; simp only [fewB, Bool.and_eq_true, Bool.or_eq_true, Bool.and_eq_false_iff, Bool.or_eq_false_iff, decide_eq_true_eq, decide_eq_false_iff_not] at hq; omega), (Below.refl _ _).alloc (Nat.le_refl _) _⟩
end Go.Proofs.YtcdodfehnkgjdaaGreatDoor

/- few, and the law TurnMinutes, its calls met by their contracts. -/
namespace Go.Proofs.YtcdodfehnkgjdaaGreatDoor
open Go.RowKit

/-- What the law reads: its set's value and its turn. -/
abbrev MS (w : World) (v0 v1 : Value) (p f l : Int) (W : World) : Prop :=
  W.cell? ⟨w.heap.size, 0, none⟩ = some v0 ∧ W.cell? ⟨w.heap.size, 1, none⟩ = some v1 ∧
  W.cell? ⟨w.heap.size + 1, 0, none⟩ = some (.int .i64 p) ∧ W.cell? ⟨w.heap.size + 1, 1, none⟩ = some (.int .i64 f) ∧ W.cell? ⟨w.heap.size + 1, 2, none⟩ = some (.int .i64 l) ∧
  w.heap.size + 1 < W.heap.size ∧ Below w.heap.size w W
def MSd (w : World) (v0 v1 : Value) (p f l : Int) (W : World) : Prop := MS w v0 v1 p f l W
section
variable {w W W' : World} {v0 v1 : Value} {p f l : Int}
theorem MSd.out (h : MSd w v0 v1 p f l W) : MS w v0 v1 p f l W := h
theorem MSd.below (h : MSd w v0 v1 p f l W) (hb : Below W.heap.size W W') : MSd w v0 v1 p f l W' := by
  obtain ⟨a0, a1, b0, b1, b2, l1, hB⟩ := h.out
  have hs := hb.size
  exact ⟨(hb.cell (p := ⟨w.heap.size, 0, none⟩) (by show w.heap.size < _; omega)).trans a0, (hb.cell (p := ⟨w.heap.size, 1, none⟩) (by show w.heap.size < _; omega)).trans a1, (hb.cell (p := ⟨w.heap.size + 1, 0, none⟩) l1).trans b0, (hb.cell (p := ⟨w.heap.size + 1, 1, none⟩) l1).trans b1, (hb.cell (p := ⟨w.heap.size + 1, 2, none⟩) l1).trans b2, by omega, hB.trans (hb.mono (by omega))⟩
theorem MSd.drew (h : MSd w v0 v1 p f l W) : MSd w v0 v1 p f l W.drew := h.below (Below.refl _ _).drew
theorem MSd.new (t t' : TypeId) : MSd w v0 v1 p f l ((w.alloc (.cells #[v0, v1] t)).alloc (.cells #[.int .i64 p, .int .i64 f, .int .i64 l] t')) :=
  ⟨by simp [go_sem], by simp [go_sem], by simp [go_sem], by simp [go_sem], by simp [go_sem], by simp, ((Below.refl _ _).alloc (Nat.le_refl _) _).alloc (by simp) _⟩
theorem MSd.bel (h : MSd w v0 v1 p f l W) : Below w.heap.size w W := h.out.2.2.2.2.2.2
theorem MSd.siz (h : MSd w v0 v1 p f l W) : w.heap.size ≤ W.heap.size := h.bel.size
end

end Go.Proofs.YtcdodfehnkgjdaaGreatDoor

/- Plain mathematics: what lies between a minute and the answers of Next and Last; what a count tells. -/
namespace Go.Proofs.YtcdodfehnkgjdaaGreatDoor

theorem Lot.lo_le_hi {x : Lot} (h : x.ok) (n : Int) : x.lo n ≤ x.hi n := by
  obtain ⟨k, a, b, c⟩ := x
  cases k
  · simp only [Lot.lo, Lot.hi, sFrom, sFromHi, Lot.ok, SOk, Bool.false_eq_true, if_false] at *
    split <;> omega
  · simp only [Lot.lo, Lot.hi, Lot.ok, if_true] at *
    have := h.2.2.2.2.1
    omega
/-- Where a lot's run ends that begins at n or ahead of it. -/
def Lot.to (x : Lot) (n : Int) : Int := if x.kind then tTo x.a x.b x.c n else sTo x.a x.b n
theorem Lot.to_spec {x : Lot} (h : x.ok) {n : Int} (hn : MOk n) : (0 ≤ mn (x.to n) n → x.has (mn (x.to n) n)) ∧ (∀ m, mn (x.to n) n < m → m ≤ n → 0 ≤ m → ¬ x.has m) := by
  obtain ⟨k, a, b, c⟩ := x
  obtain ⟨n0, n1⟩ := hn
  cases k
  · simp only [Lot.to, sTo, Lot.has, Lot.ok, SOk, Bool.false_eq_true, if_false] at *
    unfold mn
    by_cases d : n < a
    · rw [if_pos d]
      refine ⟨?_, fun m _ _ _ => by omega⟩
      split <;> omega
    · rw [if_neg d]
      split
      · exact ⟨fun _ => by omega, fun m _ _ _ => by omega⟩
      · exact ⟨fun _ => by omega, fun m _ _ _ => by omega⟩
  · simp only [Lot.to, Lot.has, Lot.ok, if_true] at *
    obtain ⟨p1, p2, f0, f1, l0, l1⟩ := h
    have r0 := Int.emod_nonneg (n - b) (show a ≠ 0 by omega)
    have r1 := Int.emod_lt_of_pos (n - b) (show 0 < a by omega)
    have rq := Int.emod_add_mul_ediv (n - b) a
    have key : ∀ m, m ≤ n → n - (n - b) % a ≤ m → (m - b) % a = m - (n - (n - b) % a) := by
      intro m h1 h2
      have e : (m - b) % a = (m - (n - (n - b) % a)) % a := emod_of_dvd ⟨(n - b) / a, by omega⟩
      rw [e, Int.emod_eq_of_lt (by omega) (by omega)]
    unfold tTo
    unfold mn
    by_cases d : n < n - (n - b) % a + c - 1
    · rw [if_pos d]
      refine ⟨fun _ => ?_, fun m _ _ _ => by omega⟩
      show (n - b) % a < c
      omega
    · rw [if_neg d]
      refine ⟨fun _ => ?_, fun m h1 h2 _ => ?_⟩
      · show (n - (n - b) % a + c - 1 - b) % a < c
        rw [key _ (by omega) (by omega)]; omega
      · show ¬ (m - b) % a < c
        rw [key _ (by omega) (by omega)]; omega

theorem foldl_mn_mem : ∀ (l : List Int) (a : Int), l.foldl mn a = a ∨ l.foldl mn a ∈ l
  | [], a => .inl rfl
  | x :: l, a => by
    rw [List.foldl_cons]
    rcases foldl_mn_mem l (mn a x) with h | h
    · have : mn a x = a ∨ mn a x = x := by unfold mn; split <;> simp
      rcases this with k | k
      · left; rw [h, k]
      · right; rw [h, k]; exact List.mem_cons_self ..
    · right; exact List.mem_cons_of_mem _ h
theorem nextNs_lots (ts : List T3) (ss : List S2) (n : Int) : nextNs ts ss n = (lotsOf ts ss).map fun x => mx (x.lo n) n := by
  unfold nextNs lotsOf
  rw [List.map_append, List.map_map, List.map_map]
  rfl
theorem lastNs_lots (ts : List T3) (ss : List S2) (n : Int) : lastNs ts ss n = (lotsOf ts ss).map fun x => -(mn (x.to n) n) := by
  unfold lastNs lotsOf
  rw [List.map_append, List.map_map, List.map_map]
  rfl

theorem setB_false {xs : List Lot} {n : Int} (h : ∀ x ∈ xs, ¬ x.has n) : setB xs n = false := by
  cases hs : setB xs n with
  | false => rfl
  | true =>
    obtain ⟨x, hx, hh⟩ := (setB_iff xs n).1 hs
    exact absurd hh (h x hx)

/-- What Next says. -/
def NextSays (H : Int → Bool) (n r q : Int) : Prop :=
  (q = 0 ∧ n ≤ r ∧ r ≤ 1048576 ∧ H r = true ∧ ∀ k, n ≤ k → k < r → H k = false) ∨ (q = 5 ∧ r = 0 ∧ ∀ k, n ≤ k → k ≤ 1048576 → H k = false)
theorem next_says {ts : List T3} {ss : List S2} {n r q : Int} (hok : AllOk ts ss) (hn : MOk n) (h : NextIs ts ss n 0 r q) : NextSays (setB (lotsOf ts ss)) n r q := by
  obtain ⟨n0, n1⟩ := id hn
  have hle := foldl_mn_le (nextNs ts ss n) 1099511627776
  have hmem := foldl_mn_mem (nextNs ts ss n) 1099511627776
  have lots_ok := lotsOf_ok hok
  change (nextM ts ss n = _ ∨ nextM ts ss n ∈ _) at hmem
  have hle2 : ∀ x ∈ lotsOf ts ss, nextM ts ss n ≤ mx (x.lo n) n := fun x hx => hle.2.1 _ (by rw [nextNs_lots]; exact List.mem_map.2 ⟨x, hx, rfl⟩)
  have hno : ∀ k, n ≤ k → k < nextM ts ss n → k ≤ 1048576 → setB (lotsOf ts ss) k = false := by
    intro k k0 k1 k2
    refine setB_false fun x hx => ?_
    have h1 := hle2 x hx
    have h2 := (Lot.spec (lots_ok x hx) n (by omega)).2.1 k k0
    refine h2 ?_ k2
    unfold mx at h1
    split at h1 <;> omega
  rcases h with ⟨h, _⟩ | ⟨_, h1, rfl, rfl⟩ | ⟨_, h1, rfl, rfl⟩
  · exact absurd rfl h
  · rcases hmem with h2 | h2
    · omega
    · rw [nextNs_lots] at h2
      obtain ⟨x, hx, hxe⟩ := List.mem_map.1 h2
      have sp := Lot.spec (lots_ok x hx) n (by omega)
      have ll := Lot.lo_le_hi (lots_ok x hx) n
      have hge : n ≤ mx (x.lo n) n ∧ x.lo n ≤ mx (x.lo n) n ∧ mx (x.lo n) n ≤ x.hi n := by
        have := sp.1
        unfold mx; split <;> omega
      have hhas := sp.2.2 (mx (x.lo n) n) hge.2.1 hge.2.2 (by rw [hxe]; exact h1)
      refine .inl ⟨rfl, by omega, h1, ?_, fun k k0 k1 => hno k k0 k1 (by omega)⟩
      rw [← hxe]
      exact (setB_iff _ _).2 ⟨x, hx, hhas⟩
  · exact .inr ⟨rfl, rfl, fun k k0 k1 => hno k k0 (by omega) k1⟩
/-- What Last says. -/
def LastSays (H : Int → Bool) (n r q : Int) : Prop :=
  (q = 0 ∧ 0 ≤ r ∧ r ≤ n ∧ H r = true ∧ ∀ k, r < k → k ≤ n → H k = false) ∨ (q = 5 ∧ r = 0 ∧ ∀ k, 0 ≤ k → k ≤ n → H k = false)
theorem last_says {ts : List T3} {ss : List S2} {n r q : Int} (hok : AllOk ts ss) (hn : MOk n) (h : LastIs ts ss n 0 r q) : LastSays (setB (lotsOf ts ss)) n r q := by
  obtain ⟨n0, n1⟩ := id hn
  have hle := foldl_mn_le (lastNs ts ss n) 1099511627776
  have hmem := foldl_mn_mem (lastNs ts ss n) 1099511627776
  have lots_ok := lotsOf_ok hok
  change (lastM ts ss n = _ ∨ lastM ts ss n ∈ _) at hmem
  have hle2 : ∀ x ∈ lotsOf ts ss, lastM ts ss n ≤ -(mn (x.to n) n) := fun x hx => hle.2.1 _ (by rw [lastNs_lots]; exact List.mem_map.2 ⟨x, hx, rfl⟩)
  have hno : ∀ k, -lastM ts ss n < k → k ≤ n → 0 ≤ k → setB (lotsOf ts ss) k = false := by
    intro k k0 k1 k2
    refine setB_false fun x hx => ?_
    have h1 := hle2 x hx
    exact (Lot.to_spec (lots_ok x hx) hn).2 k (by omega) k1 k2
  rcases h with ⟨h, _⟩ | ⟨_, h1, rfl, rfl⟩ | ⟨_, h1, rfl, rfl⟩
  · exact absurd rfl h
  · rcases hmem with h2 | h2
    · omega
    · rw [lastNs_lots] at h2
      obtain ⟨x, hx, hxe⟩ := List.mem_map.1 h2
      have hxe' : mn (x.to n) n = -lastM ts ss n := by omega
      have sp := Lot.to_spec (lots_ok x hx) hn
      have hle3 : mn (x.to n) n ≤ n := by unfold mn; split <;> omega
      refine .inl ⟨rfl, by omega, by omega, ?_, fun k k0 k1 => hno k k0 k1 (by omega)⟩
      rw [← hxe']
      exact (setB_iff _ _).2 ⟨x, hx, sp.1 (by omega)⟩
  · exact .inr ⟨rfl, rfl, fun k k0 k1 => hno k (by omega) k1 k0⟩
/-- A count is not 0 exactly if there is something. -/
theorem cntH_pos {H : Int → Bool} {lo : Int} : ∀ {k : Nat} {m : Int}, lo ≤ m → m < lo + k → H m = true → 0 < cntH H lo k
  | 0, m, h1, h2, _ => by omega
  | k + 1, m, h1, h2, hm => by
    have hb := cntH_bd H lo k
    show 0 < if H (lo + k) = true then cntH H lo k + 1 else cntH H lo k
    by_cases c : m = lo + k
    · subst c; rw [if_pos hm]; omega
    · have := cntH_pos (k := k) h1 (by omega) hm
      split <;> omega
theorem cntH_zero {H : Int → Bool} {lo : Int} : ∀ {k : Nat}, (∀ m, lo ≤ m → m < lo + k → H m = false) → cntH H lo k = 0
  | 0, _ => rfl
  | k + 1, h => by
    show (if H (lo + k) = true then cntH H lo k + 1 else cntH H lo k) = 0
    rw [cntH_zero fun m h1 h2 => h m h1 (by omega), h (lo + k) (by omega) (by omega)]; rfl
end Go.Proofs.YtcdodfehnkgjdaaGreatDoor

/- Contract of has: whether a minute is in a set, by Holds. -/
namespace Go.Proofs.YtcdodfehnkgjdaaGreatDoor
open Go.RowKit

/-- The set that a law holds in its first block. -/
abbrev NS (w : World) (v0 v1 : Value) (W : World) : Prop :=
  W.cell? ⟨w.heap.size, 0, none⟩ = some v0 ∧ W.cell? ⟨w.heap.size, 1, none⟩ = some v1 ∧ w.heap.size < W.heap.size ∧ Below w.heap.size w W
def NSd (w : World) (v0 v1 : Value) (W : World) : Prop := NS w v0 v1 W
section
variable {w W W' : World} {v0 v1 : Value}
theorem NSd.out (h : NSd w v0 v1 W) : NS w v0 v1 W := h
theorem NSd.below (h : NSd w v0 v1 W) (hb : Below W.heap.size W W') : NSd w v0 v1 W' := by
  obtain ⟨a0, a1, l1, hB⟩ := h.out
  have hs := hb.size
  exact ⟨(hb.cell (p := ⟨w.heap.size, 0, none⟩) l1).trans a0, (hb.cell (p := ⟨w.heap.size, 1, none⟩) l1).trans a1, by omega, hB.trans (hb.mono (by omega))⟩
theorem NSd.drew (h : NSd w v0 v1 W) : NSd w v0 v1 W.drew := h.below (Below.refl _ _).drew
theorem NSd.alloc (h : NSd w v0 v1 W) (o : Obj) : NSd w v0 v1 (W.alloc o) := h.below ((Below.refl _ _).alloc (Nat.le_refl _) o)
theorem NSd.new (t : TypeId) : NSd w v0 v1 (w.alloc (.cells #[v0, v1] t)) :=
  ⟨by simp [go_sem], by simp [go_sem], by simp, (Below.refl _ _).alloc (Nat.le_refl _) _⟩
theorem NSd.bel (h : NSd w v0 v1 W) : Below w.heap.size w W := h.out.2.2.2
theorem NSd.siz (h : NSd w v0 v1 W) : w.heap.size ≤ W.heap.size := h.bel.size
end

section
variable {P : Program} {md : Region.Mode} {ops : Array Oper} {Q : Exit → Act → World → Prop} {S : World → Prop} {i : Nat} {oi : Oper} {v : Value} {d : Option Tmp} {fuel : Nat} {listed : Array Bool} {a : Act} {w : World}
/-- An operation of a region that draws is taken; the slot that it writes is named. -/
theorem takeW (hi : ops[i]? = some oi) (hd : oi.dst = d) (hs : Region.noSelect ops = true) (hf : Region.free md ops listed i = true) (hr : (Region.ready md ops listed).contains i = true)
    (hQ : ∀ c a w, Q (.panic c) (a.put d v) w → Q (.panic c) a w) (hw : Region.wanted oi (yielded ops a.tmps) = true) (hy : ∀ w, S w → (execOp a.eval oi).run P w = .ok (.value v) w) (hS : S w)
    (h : wpAnyH P md ops Q S fuel (listed.setIfInBounds i true) (a.put d v) w) : wpAnyH P md ops Q S (fuel + 1) listed a w := by
  subst hd; exact wpAnyH_take hi hs hf hr hQ (.inl ⟨hw, hy⟩) hS h
/-- An operation of a region that draws is passed over, as its guard says. -/
theorem skipW (hi : ops[i]? = some oi) (hd : oi.dst = d) (hs : Region.noSelect ops = true) (hf : Region.free md ops listed i = true) (hr : (Region.ready md ops listed).contains i = true)
    (hQ : ∀ c a w, Q (.panic c) (a.put d undef) w → Q (.panic c) a w) (hw : Region.wanted oi (yielded ops a.tmps) = false) (hS : S w)
    (h : wpAnyH P md ops Q S fuel (listed.setIfInBounds i true) (a.put d undef) w) : wpAnyH P md ops Q S (fuel + 1) listed a w := by
  subst hd; exact wpAnyH_take hi hs hf hr hQ (.inr ⟨hw, rfl⟩) hS h
end

def hasV (ts : List T3) (ss : List S2) (n : Int) : Bool := mokB n && setB (lotsOf ts ss) n

set_option maxHeartbeats 2000000 in
set_option maxRecDepth 100000 in
theorem has_any (A A' : Option Addr) (k c k' c' : Nat) (ts : List T3) (ss : List S2) (n : Int) (w : World) (h : RM w.heap.size (.agg #[.slice A k c, .slice A' k' c']) ts ss w) (hc : CheckIs ts ss 0) :
    Calls Tryz.prog 13 #[.agg #[.slice A k c, .slice A' k' c'], .int .i64 n] w fun e w' => e = .returned (.bool (hasV ts ss n)) ∧ Below w.heap.size w w' := by
  have HV : Hid (hasV ts ss n = (mokB n && setB (lotsOf ts ss) n)) := Lib.hid rfl
  by_cases hn : MOk n
  · have C := Lib.hid fun W (S : NSd w (.slice A k c) (.slice A' k' c') W) => holds_any _ ts ss n 0 0 W (h.up S.siz S.bel) hc (.inr (.inl ⟨rfl, hn, rfl⟩))
    have hm : mokB n = true := decide_eq_true hn
    rw [hm] at HV
    have HV2 : Hid (hasV ts ss n = setB (lotsOf ts ss) n) := Lib.hid (by rw [HV.out]; simp)
    rw [show (decide ((0 : Int) = 0) && setB (lotsOf ts ss) n) = setB (lotsOf ts ss) n by simp] at C
    generalize setB (lotsOf ts ss) n = b at *
    have S0 := Lib.hid (NSd.new (w := w) (v0 := .slice A k c) (v1 := .slice A' k' c') 25)
    clear h hc hn hm HV
    go_enter Tryz.func13, Tryz.ntmps13
    go_wp2_with fail
    refine (C.out _ S0.out).mono ?_
    rintro e w1 ⟨rfl, h1⟩
    have S1 := Lib.hid (S0.out.below h1)
    clear h1 S0
    go_wp2_with fail
    go_ret
    exact ⟨by rw [HV2.out]; cases b <;> rfl, S1.out.bel⟩
  · have C := Lib.hid fun W (S : NSd w (.slice A k c) (.slice A' k' c') W) => holds_any _ ts ss n 0 1 W (h.up S.siz S.bel) hc (.inr (.inr ⟨rfl, hn, rfl⟩))
    have hm : mokB n = false := decide_eq_false hn
    rw [hm] at HV
    have HV2 : Hid (hasV ts ss n = false) := Lib.hid (by rw [HV.out]; simp)
    rw [show (decide ((1 : Int) = 0) && setB (lotsOf ts ss) n) = false by simp] at C
    have S0 := Lib.hid (NSd.new (w := w) (v0 := .slice A k c) (v1 := .slice A' k' c') 25)
    clear h hc hn hm HV
    go_enter Tryz.func13, Tryz.ntmps13
    go_wp2_with fail
    refine (C.out _ S0.out).mono ?_
    rintro e w1 ⟨rfl, h1⟩
    have S1 := Lib.hid (S0.out.below h1)
    clear h1 S0
    go_wp2_with fail
    go_ret
    exact ⟨by rw [HV2.out]; rfl, S1.out.bel⟩
end Go.Proofs.YtcdodfehnkgjdaaGreatDoor
