/- The law TurnAgain, for every input: its walks put together. -/
import Derived.Test.YtlhgpeelenelbaaDoorLD
import Derived.Test.YtlhgpeelenelbaaDoorLE
namespace Go.Proofs.YtlhgpeelenelbaaDoor
open Go.RowKit

theorem PerIs.exists_ {ts : List T3} {ss : List S2} {c : Int} (hc : CheckIs ts ss c) : ∃ r d, PerIs ts ss c r d := by
  by_cases h0 : c = 0
  · subst h0
    by_cases h1 : ss ≠ [] ∨ ts = []
    · exact ⟨0, 1, .inl ⟨.inr ⟨rfl, h1, rfl⟩, rfl⟩⟩
    · obtain ⟨hs, ht⟩ : ss = [] ∧ ts ≠ [] := ⟨Classical.byContradiction fun h => h1 (.inl h), fun h => h1 (.inr h)⟩
      subst hs
      by_cases ho : Over ts
      · exact ⟨0, 2, .inr (.inl ⟨rfl, rfl, ht, ho, rfl, rfl⟩)⟩
      · obtain ⟨p, -, p1, p2, p3, p4, _⟩ := round_of hc ht ho
        obtain ⟨k1, k2, k3⟩ := checkIs_ok hc
        have l1 := lcmS_pos _ ts rfl (fun t q => (k3.1 t q).1)
        have l2 : lcmS ts ≤ 40320 := by
          rcases Int.lt_or_le 40320 (lcmS ts) with c | c
          · exact absurd ⟨ts.length, Nat.le_refl _, by rw [List.take_length]; exact c⟩ ho
          · exact c
        exact ⟨p, 0, .inr (.inr ⟨rfl, rfl, ht, ho, l1, l2, rfl, p, rfl, p1, p2, p3, p4⟩)⟩
  · exact ⟨0, c, .inl ⟨.inl ⟨h0, rfl⟩, rfl⟩⟩
theorem FewIs.exists_ {ts : List T3} {ss : List S2} {c r e : Int} (h : PerIs ts ss c r e) : ∃ l d, FewIs ts ss c l d := by
  by_cases he : e = 0
  · subst he
    by_cases hl : (fewU (setB (lotsOf ts ss)) r.toNat r.toNat).length ≤ 24
    · exact ⟨_, _, r, 0, h, .inr (.inl ⟨rfl, hl, rfl, rfl⟩)⟩
    · exact ⟨_, _, r, 0, h, .inr (.inr ⟨rfl, by omega, rfl, rfl⟩)⟩
  · exact ⟨_, _, r, e, h, .inl ⟨he, rfl, rfl⟩⟩
/-- The fewest turns have the minutes of the set: all that fewU_set wants. -/
theorem few_set {ts : List T3} {p : Nat} (hok : AllOk ts []) (ht : ts ≠ []) (hp : 1 ≤ p) (hP : PerH (setB (lotsOf ts [])) p) (hmin : ∀ q : Nat, 1 ≤ q → q < p → p % q = 0 → ¬ PerH (setB (lotsOf ts [])) q) (n : Int) :
    setB (lotsOf (fewU (setB (lotsOf ts [])) p p) []) n = setB (lotsOf ts []) n := by
  refine fewU_set hp hP (fun e n => ?_) (fun hne => ?_) n
  · subst e
    obtain ⟨m, hm⟩ := set_some hok ht
    have := hP.mulZ m (n - m)
    rw [show m + ((1 : Nat) : Int) * (n - m) = n by omega] at this
    rw [this, hm]
  · refine Classical.byContradiction fun hc => hmin 1 (Nat.le_refl _) (by omega) (Nat.mod_one p) fun n => ?_
    have all : ∀ n, setB (lotsOf ts []) n = true := fun n => by
      cases e : setB (lotsOf ts []) n with
      | true => rfl
      | false => exact absurd ⟨n, e⟩ hc
    rw [all, all]

set_option maxHeartbeats 1000000 in
theorem again_yes (hsan : ∀ W, Calls Tryd.prog 16 #[] W fun e w' => e = .returned (.bool true) ∧ Below W.heap.size W w') (A A' : Option Addr) (k c k' c' : Nat) (ts : List T3) (ss : List S2) (sm : Int) (w : World) (h : RM w.heap.size (.agg #[.slice A k c, .slice A' k' c']) ts ss w) (f1 : fewB k k' = true) (s0 : 0 ≤ sm) (s1 : sm ≤ 65535) :
    Calls Tryd.prog 13 #[.agg #[.slice A k c, .slice A' k' c'], .int .u16 sm] w fun e w' => e = .returned (.bool true) ∧ Below w.heap.size w w' := by
  obtain ⟨ck, hc⟩ := CheckIs.exists_ ts ss
  obtain ⟨r, d, hp⟩ := PerIs.exists_ hc
  obtain ⟨l, d2, hf⟩ := FewIs.exists_ hp
  have F1 := Lib.hid fun W => few_any A A' k c k' c' W
  rw [f1] at F1
  have C0 : Hid (∀ W, NSd w (.slice A k c) (.slice A' k' c') W → Calls Tryd.prog 45 #[.agg #[.slice A k c, .slice A' k' c'], .int .i64 2520] W (SoonPost W)) := Lib.hid fun W S => soon_any _ ts ss ck 2520 W (h.up S.siz S.bel) hc
  have C1 : Hid (∀ W, NSd w (.slice A k c) (.slice A' k' c') W → Calls Tryd.prog 46 #[.agg #[.slice A k c, .slice A' k' c']] W fun e w' => e = .returned (.tuple #[.int .i64 r, .int .i64 d]) ∧ Below W.heap.size W w') := Lib.hid fun W S => (period_any _ ts ss ck W (h.up S.siz S.bel) hc).mono (by
    rintro e w' ⟨r', d', rfl, hp', hb⟩
    obtain ⟨rfl, rfl⟩ := hp.unique hp'
    exact ⟨rfl, hb⟩)
  have C3 : Hid (∀ W, NSd w (.slice A k c) (.slice A' k' c') W → Calls Tryd.prog 48 #[.agg #[.slice A k c, .slice A' k' c']] W fun e w' => ∃ X nx cx, e = .returned (.tuple #[.agg #[.slice X nx cx, .slice none 0 0], .int .i64 d2]) ∧ RT w'.heap.size (.slice X nx cx) l w' ∧ Below W.heap.size W w') := Lib.hid fun W S => (fewest_any _ ts ss ck W (h.up S.siz S.bel) hc).mono (by
    rintro e w' ⟨v, l', d', rfl, hr, hb, hf'⟩
    obtain ⟨rfl, rfl⟩ := hf.unique hf'
    obtain ⟨X, nx, cx, rfl⟩ := hr.slice
    exact ⟨X, nx, cx, rfl, hr, hb⟩)
  obtain ⟨r', e', hp', hh⟩ := hf
  obtain ⟨rfl, rfl⟩ := hp.unique hp'
  clear hp'
  by_cases hd : d = 0
  · subst hd
    obtain ⟨p, rfl, p1, p2, rfl, rfl, ht, hok, hP, hmin⟩ := perIs_ok hp hc
    have hset := few_set hok ht p1 hP hmin
    have hne := fewU_some hok ht p1 hset
    have CM : Hid (∀ d W, 1 ≤ d → d < (p : Int) → (p : Int) % d = 0 → NSd w (.slice A k c) (.slice A' k' c') W → Calls Tryd.prog 64 #[.agg #[.slice A k c, .slice A' k' c'], .int .i64 d, .int .i64 p] W fun e w' => e = .returned (.bool false) ∧ Below W.heap.size W w') := Lib.hid fun d W d0 d1 dm S => (comes_any A A' k c k' c' ts [] d p W (h.up S.siz S.bel) hc (by omega) (by omega) (by omega) (by omega)).mono (by
      rintro e w' ⟨b, rfl, hb, hB⟩
      refine ⟨?_, hB⟩
      cases b with
      | false => rfl
      | true =>
        exfalso
        have hb' := hb.1 rfl
        obtain ⟨q, rfl⟩ : ∃ q : Nat, d = q := ⟨d.toNat, by omega⟩
        refine hmin q (by omega) (by omega) (by exact_mod_cast dm) (perH_of_round (by omega) hP fun n n0 n1 => ?_)
        have := hb' n n0 n1
        rwa [hasV_in n0 (by omega), hasV_in (by omega) (by omega)] at this)
    have CP : Hid (∀ W, NSd w (.slice A k c) (.slice A' k' c') W → Calls Tryd.prog 64 #[.agg #[.slice A k c, .slice A' k' c'], .int .i64 p, .int .i64 p] W fun e w' => e = .returned (.bool true) ∧ Below W.heap.size W w') := Lib.hid fun W S => (comes_any A A' k c k' c' ts [] p p W (h.up S.siz S.bel) hc (by omega) (by omega) (by omega) (by omega)).mono (by
      rintro e w' ⟨b, rfl, hb, hB⟩
      refine ⟨?_, hB⟩
      rw [hb.2 fun n n0 n1 => by rw [hasV_in n0 (by omega), hasV_in (by omega) (by omega), hP n]])
    have HA : Hid (∀ n W, 0 ≤ n → n ≤ 1000000 → NSd w (.slice A k c) (.slice A' k' c') W → Calls Tryd.prog 55 #[.agg #[.slice A k c, .slice A' k' c'], .int .i64 n] W fun e w' => e = .returned (.bool (setB (lotsOf ts []) n)) ∧ Below W.heap.size W w') := Lib.hid fun n W n0 n1 S => (has_any A A' k c k' c' ts [] n W (h.up S.siz S.bel) hc).mono (by
      rintro e w' ⟨rfl, hB⟩
      exact ⟨by rw [hasV_in n0 (by omega)], hB⟩)
    rw [show ((p : Int)).toNat = p from rfl] at hh
    rcases hh with ⟨hx, -, -⟩ | ⟨-, hl, rfl, rfl⟩ | ⟨-, hl, rfl, rfl⟩
    · exact absurd rfl hx
    · have hcl : CheckIs (fewU (setB (lotsOf ts [])) p p) [] 0 := .inr (.inl ⟨hl, Nat.zero_le _, fewU_ok p1 p2, rfl⟩)
      have C5 : Hid (∀ X nx cx W, RT W.heap.size (.slice X nx cx) (fewU (setB (lotsOf ts [])) p p) W → Calls Tryd.prog 46 #[.agg #[.slice X nx cx, .slice none 0 0]] W fun e w' => e = .returned (.tuple #[.int .i64 p, .int .i64 0]) ∧ Below W.heap.size W w') := Lib.hid fun X nx cx W hr => (period_any _ _ [] 0 W (rm_of hr) hcl).mono (by
        rintro e w' ⟨r', d', rfl, hp', hb⟩
        obtain ⟨rfl, rfl⟩ := few_period p1 p2 hP (funext hset) hne hmin hp'
        exact ⟨rfl, hb⟩)
      have HF : Hid (∀ n X nx cx W, 0 ≤ n → n ≤ 1000000 → RT W.heap.size (.slice X nx cx) (fewU (setB (lotsOf ts [])) p p) W → Calls Tryd.prog 55 #[.agg #[.slice X nx cx, .slice none 0 0], .int .i64 n] W fun e w' => e = .returned (.bool (setB (lotsOf ts []) n)) ∧ Below W.heap.size W w') := Lib.hid fun n X nx cx W n0 n1 hr => (has_any X none nx cx 0 0 _ [] n W (rm_of hr) hcl).mono (by
        rintro e w' ⟨rfl, hB⟩
        exact ⟨by rw [hasV_in n0 (by omega), hset], hB⟩)
      exact again_main hsan A A' k c k' c' sm p p (setB (lotsOf ts [])) _ w s0 s1 (by omega) (by omega) rfl hP (runU_max (List.length_pos_iff.2 hne)) (fun i x hx => (by
        obtain ⟨a, _, b⟩ := fewU_order p i x hx
        exact ⟨a, b⟩)) F1 C0 C1 C3 CM CP HA C5 HF
    · exact again_limit hsan A A' k c k' c' sm p p (setB (lotsOf ts [])) [] w s0 s1 (by omega) (by omega) rfl hP (runU_many hl) F1 C0 C1 C3 CM CP HA
  · have e2 : d2 = d := by
      rcases hh with ⟨_, _, h⟩ | ⟨h, _⟩ | ⟨h, _⟩
      · exact h
      · exact absurd h hd
      · exact absurd h hd
    rw [e2] at C3
    exact again_err hsan A A' k c k' c' sm r d w hd F1 C0 C1 (Lib.hid fun W S => (C3.out W S).mono (by
      rintro e w' ⟨X, nx, cx, rfl, -, hb⟩
      exact ⟨X, nx, cx, rfl, hb⟩))

theorem turnAgain_calls (hsan : ∀ W, Calls Tryd.prog 16 #[] W fun e w' => e = .returned (.bool true) ∧ Below W.heap.size W w') (A : Option Addr) (k c : Nat) (A' : Option Addr) (k' c' : Nat) (sm : Int) (w : World) (ho : k ≤ 1000000000000 → k' ≤ 1000000000000 → ∃ ts ss, RM w.heap.size (.agg #[.slice A k c, .slice A' k' c']) ts ss w) (s0 : 0 ≤ sm) (s1 : sm ≤ 65535) :
    Calls Tryd.prog 13 #[.agg #[.slice A k c, .slice A' k' c'], .int .u16 sm] w fun e w' => e = .returned (.bool true) ∧ Below w.heap.size w w' := by
  cases f1 : fewB k k' with
  | false => exact again_no hsan A A' k c k' c' sm w f1
  | true =>
    have hk : k ≤ 30 ∧ k' ≤ 50 := by
      simp only [fewB, Bool.and_eq_true, Bool.or_eq_true, decide_eq_true_eq] at f1
      omega
    obtain ⟨ts, ss, h⟩ := ho (by omega) (by omega)
    exact again_yes hsan A A' k c k' c' ts ss sm w h f1 s0 s1
end Go.Proofs.YtlhgpeelenelbaaDoor
