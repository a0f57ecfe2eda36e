/- Print for every set, where the table of powers of ten is laid. -/
import Derived.Test.YtlhgpeelenelbaaDoorQA
import Derived.Test.YtlhgpeelenelbaaDoorQB
import Derived.Test.YtlhgpeelenelbaaDoorUF
import Derived.Lib.SmallJoins
namespace Go.Proofs.YtlhgpeelenelbaaDoor
open Go.RowKit

/-- The table of powers of ten is laid. -/
abbrev Tab (w : World) : Prop := Lib.TabIs Tryd.prog w "internal/strconv.uint64pow10" .u64 Lib.pow10Tab
theorem tab_named : Tryd.prog.globalNamed "internal/strconv.uint64pow10" = some 0 := by kernel_rfl
theorem tab_below {w w' : World} (h : Tab w) (hb : Below w.heap.size w w') : Tab w' := Joins.tab_stays tab_named h hb (Nat.le_refl _)
theorem below_grown (B : Nat) (w : World) (hB : B ≤ w.heap.size) (k : Nat) (os : Array Obj) : Below B w (Go.Sort.grow (w.drewN k) os) :=
  ⟨rfl, rfl, rfl, by show w.heap.size ≤ (w.heap ++ os).size; rw [Array.size_append]; omega, fun j hj => by
    show (w.heap ++ os)[j]? = w.heap[j]?
    exact Array.getElem?_append_left (by omega)⟩
theorem itoaOk_tab {w : World} (h : Tab w) {n : Int} (h0 : 0 ≤ n) (h1 : n ≤ 9223372036854775807) : ItoaOk n w.heap.size w := fun W hW => by
  refine (Tryd.strconv_Itoa n (by omega) h1 W (tab_below h hW)).mono ?_
  rintro e w' ⟨rfl, k, os, rfl⟩
  exact ⟨rfl, below_grown _ _ (Nat.le_refl _) _ _⟩
theorem itoaAll_tab {w : World} (h : Tab w) {ts : List T3} {ss : List S2} (ho : AllOk ts ss) : ItoaAll ts ss w := by
  refine ⟨fun t ht => ?_, fun s hs => ?_⟩
  · obtain ⟨a1, a2, a3, a4, a5, a6⟩ := ho.1 t ht
    exact ⟨itoaOk_tab h (by omega) (by omega), itoaOk_tab h (by omega) (by omega), itoaOk_tab h (by omega) (by omega)⟩
  · obtain ⟨a1, a2, a3⟩ := ho.2 s hs
    exact ⟨itoaOk_tab h (by omega) (by omega), itoaOk_tab h (by omega) (by omega)⟩

set_option maxHeartbeats 2000000 in
set_option maxRecDepth 100000 in
theorem print_err (v : Value) (ts : List T3) (ss : List S2) (c : Int) (w : World) (h : RM w.heap.size v ts ss w) (hc : CheckIs ts ss c) (h0 : c ≠ 0) :
    Calls Tryd.prog 51 #[v] w fun e w' => e = .returned (.tuple #[.string ⟨#[]⟩, .int .i64 c]) ∧ Below w.heap.size w w' := by
  obtain ⟨A, m, ca, A', m', ca', rfl, r1, r2⟩ := h
  have C := Lib.hid fun W (S : NSd w (.slice A m ca) (.slice A' m' ca') W) => check_any _ _ ts ss c W (r1.up S.siz S.bel) (r2.up S.siz S.bel) hc
  have S0 := Lib.hid (NSd.new (w := w) (v0 := .slice A m ca) (v1 := .slice A' m' ca') 25)
  have hb0 : (c != 0) = true := by rw [bne_iff_ne]; exact h0
  clear r1 r2 hc h0
  go_enter Tryd.func51, Tryd.ntmps51
  obtain ⟨t0, t1, t2, _⟩ := S0.out.out
  go_wp2_with fail
  refine (C.out _ S0.out).mono ?_
  rintro e w1 ⟨rfl, h1⟩
  have S := Lib.hid (S0.out.below h1)
  clear h1 S0 t0 t1 t2
  go_wp2_with fail
  go_ret2
  exact ⟨rfl, S.out.bel⟩
/-- What Print returns. -/
def textOf (c : Int) (ts : List T3) (ss : List S2) : List UInt8 := if c = 0 then textTs ts ++ textSs ss else []
theorem print_any (v : Value) (ts : List T3) (ss : List S2) (c : Int) (w : World) (h : RM w.heap.size v ts ss w) (hc : CheckIs ts ss c) (ht : Tab w) :
    Calls Tryd.prog 51 #[v] w fun e w' => e = .returned (.tuple #[.string ⟨(textOf c ts ss).toArray⟩, .int .i64 c]) ∧ Below w.heap.size w w' := by
  by_cases h0 : c = 0
  · subst h0
    exact print_ok v ts ss w h hc (itoaAll_tab ht (checkIs_ok hc).2.2)
  · have e : textOf c ts ss = [] := by unfold textOf; rw [if_neg h0]
    rw [e]
    exact print_err v ts ss c w h hc h0
theorem parse_cases {s : List UInt8} {q : List T3 × List S2} {d : Int} {m : Nat} (h : parseF s = (q, d, m)) : (d = 0 ∧ m = 0) ∨ (d = 2 ∧ m = 0) ∨ d = 7 := by
  unfold parseF at h
  split at h
  · cases h; exact .inr (.inl ⟨rfl, rfl⟩)
  · split at h
    · simp only [Prod.mk.injEq] at h; exact .inr (.inr h.2.1.symm)
    · split at h
      · cases h; exact .inr (.inl ⟨rfl, rfl⟩)
      · simp only [Prod.mk.injEq] at h; exact .inl ⟨h.2.1.symm, h.2.2.symm⟩
end Go.Proofs.YtlhgpeelenelbaaDoor

/- The law TurnReadsBack, its calls met by their contracts. -/
namespace Go.Proofs.YtlhgpeelenelbaaDoor
open Go.RowKit

theorem extract_take (s : ByteArray) (m : Nat) : (s.extract 0 m).data.toList = s.data.toList.take m := by
  simp [ByteArray.data_extract, Array.toList_extract]
theorem parse_is {s : ByteArray} {ts : List T3} {ss : List S2} {d : Int} {m : Nat} (h : parseF s.data.toList = ((ts, ss), d, m)) (W : World) : Calls Tryd.prog 53 #[.string s] W fun e w' => ∃ X nx cx Y ny cy, e = .returned (.tuple #[.agg #[.slice X nx cx, .slice Y ny cy], .int .i64 d, .int .i64 m]) ∧ RM w'.heap.size (.agg #[.slice X nx cx, .slice Y ny cy]) ts ss w' ∧ Below W.heap.size W w' := by
  refine (parse_any s W).mono ?_
  rintro e w' ⟨v, ts', ss', d', n', rfl, ⟨m', rfl, hp⟩, hr, hb⟩
  rw [h] at hp
  simp only [Prod.mk.injEq] at hp
  obtain ⟨⟨rfl, rfl⟩, rfl, rfl⟩ := hp
  obtain ⟨X, nx, cx, Y, ny, cy, rfl, r1, r2⟩ := hr
  exact ⟨X, nx, cx, Y, ny, cy, rfl, ⟨X, nx, cx, Y, ny, cy, rfl, r1, r2⟩, hb⟩

set_option maxHeartbeats 4000000 in
set_option maxRecDepth 100000 in
theorem back_no (hsan : ∀ W, Calls Tryd.prog 16 #[] W fun e w' => e = .returned (.bool true) ∧ Below W.heap.size W w') (A A' : Option Addr) (k c k' c' : Nat) (s : ByteArray) (w : World) (hn : 30 < k ∨ 50 < k' ∨ 3200 < s.size) :
    Calls Tryd.prog 14 #[.agg #[.slice A k c, .slice A' k' c'], .string s] w fun e w' => e = .returned (.bool true) ∧ Below w.heap.size w w' := by
  have HS := Lib.hid hsan
  have S0 := Lib.hid (NSd.new (w := w) (v0 := .slice A k c) (v1 := .slice A' k' c') 25)
  have h1 : 30 < (k : Int) ∨ ((k : Int) ≤ 30 ∧ 50 < (k' : Int)) ∨ ((k : Int) ≤ 30 ∧ (k' : Int) ≤ 50 ∧ 3200 < (s.size : Int)) := by omega
  clear hsan hn
  rcases h1 with h1 | ⟨h1, h2⟩ | ⟨h1, h2, h3⟩
  all_goals
    go_enter Tryd.func14, Tryd.ntmps14
    go_wp2_with fail
    refine (HS.out _).mono ?_
    rintro e w2 ⟨rfl, h9⟩
    have S := Lib.hid (S0.out.below h9)
    clear h9
    go_wp2_with fail
    go_ret
    exact ⟨rfl, S.out.bel⟩

set_option maxHeartbeats 16000000 in
set_option maxRecDepth 100000 in
theorem back_yes (hsan : ∀ W, Calls Tryd.prog 16 #[] W fun e w' => e = .returned (.bool true) ∧ Below W.heap.size W w') (A A' : Option Addr) (k c k' c' : Nat) (ts : List T3) (ss : List S2) (s : ByteArray) (w : World) (h : RM w.heap.size (.agg #[.slice A k c, .slice A' k' c']) ts ss w) (ht : Tab w) (h1 : (k : Int) ≤ 30) (h2 : (k' : Int) ≤ 50) (h3 : (s.size : Int) ≤ 3200) :
    Calls Tryd.prog 14 #[.agg #[.slice A k c, .slice A' k' c'], .string s] w fun e w' => e = .returned (.bool true) ∧ Below w.heap.size w w' := by
  obtain ⟨ck, hc⟩ := CheckIs.exists_ ts ss
  have HS := Lib.hid hsan
  have S0 := Lib.hid (NSd.new (w := w) (v0 := .slice A k c) (v1 := .slice A' k' c') 25)
  have HRM : Hid (∀ W, NSd w (.slice A k c) (.slice A' k' c') W → RM W.heap.size (.agg #[.slice A k c, .slice A' k' c']) ts ss W) := Lib.hid fun W S => h.up S.siz S.bel
  have CP : Hid (∀ W, NSd w (.slice A k c) (.slice A' k' c') W → Calls Tryd.prog 51 #[.agg #[.slice A k c, .slice A' k' c']] W fun e w' => e = .returned (.tuple #[.string ⟨(textOf ck ts ss).toArray⟩, .int .i64 ck]) ∧ Below W.heap.size W w') := Lib.hid fun W S => print_any _ ts ss ck W (h.up S.siz S.bel) hc (tab_below ht S.bel)
  have HTB : Hid (∀ W, NSd w (.slice A k c) (.slice A' k' c') W → Tab W) := Lib.hid fun W S => tab_below ht S.bel
  obtain ⟨⟨⟨ts2, ss2⟩, d, m⟩, hp⟩ : ∃ q, parseF s.data.toList = q := ⟨_, rfl⟩
  have CT := Lib.hid fun W => parse_is hp W
  have HP := Lib.hid hp
  have HC := Lib.hid hc
  clear hsan h ht hp hc
  go_enter Tryd.func14, Tryd.ntmps14
  obtain ⟨t0, t1, t2, _⟩ := S0.out.out
  go_wp2_with fail
  refine (CP.out _ S0.out).mono ?_
  rintro e w1 ⟨rfl, h9⟩
  have S := Lib.hid (S0.out.below h9)
  clear h9 S0 CP t0 t1 t2
  by_cases h0 : ck = 0
  · subst h0
    have CB := Lib.hid fun W => parse_is (s := ⟨(textOf 0 ts ss).toArray⟩) (show parseF (textTs ts ++ textSs ss) = ((ts, ss), 0, 0) from read_back (checkIs_ok HC.out).2.2 (checkIs_ok HC.out).1 (checkIs_ok HC.out).2.1) W
    go_wp2_with fail
    refine (CB.out _).mono ?_
    rintro e w2 ⟨X, nx, cx, Y, ny, cy, rfl, hr, h9⟩
    have ba := (Below.refl w2.heap.size w2).alloc (Nat.le_refl _) (.cells #[.slice X nx cx, .slice Y ny cy] 25)
    have S := Lib.hid ((S.out.below h9).below ba)
    have T := Lib.hid (Two.new (W := w2) (x := .slice X nx cx) (y := .slice Y ny cy) 25)
    have R := Lib.hid (hr.up ba.size ba)
    clear h9 ba hr
    obtain ⟨t0, t1, t2, _⟩ := S.out.out
    obtain ⟨b0, b1, _⟩ := T.out
    go_wp2_with fail
    refine (sameSet_eq _ _ ts ss _ R.out (HRM.out _ S.out)).mono ?_
    rintro e w3 ⟨rfl, h9⟩
    have S := Lib.hid (S.out.below h9)
    clear h9 t0 t1 t2 b0 b1 T R CB
    go_wp2_with fail
    clear HRM
    refine (CT.out _).mono ?_
    rintro e w4 ⟨X2, nx2, cx2, Y2, ny2, cy2, rfl, hr, h9⟩
    have ba := (Below.refl w4.heap.size w4).alloc (Nat.le_refl _) (.cells #[.slice X2 nx2 cx2, .slice Y2 ny2 cy2] 25)
    have S := Lib.hid ((S.out.below h9).below ba)
    have T := Lib.hid (Two.new (W := w4) (x := .slice X2 nx2 cx2) (y := .slice Y2 ny2 cy2) 25)
    have R := Lib.hid (hr.up ba.size ba)
    clear h9 ba hr CT
    obtain ⟨b0, b1, _⟩ := T.out
    rcases parse_cases HP.out with ⟨rfl, rfl⟩ | ⟨rfl, rfl⟩ | rfl
    · obtain ⟨q1, q2, q3, q4, _⟩ := parse_text HP.out
      have CQ : Hid (∀ W v, RM W.heap.size v ts2 ss2 W → Tab W → Calls Tryd.prog 51 #[v] W fun e w' => e = .returned (.tuple #[.string s, .int .i64 0]) ∧ Below W.heap.size W w') := Lib.hid fun W v h ht => by
        have e2 : (⟨(textOf 0 ts2 ss2).toArray⟩ : ByteArray) = s := by
          have : textOf 0 ts2 ss2 = s.data.toList := q1.symm
          rw [this]
        have := print_any v ts2 ss2 0 W h (.inr (.inl ⟨q3, q4, q2, rfl⟩)) ht
        rwa [e2] at this
      clear q1 q2 q3 q4
      go_wp2_with fail
      refine (CQ.out _ _ R.out (HTB.out _ S.out)).mono ?_
      rintro e w5 ⟨rfl, h9⟩
      have S := Lib.hid (S.out.below h9)
      clear h9 CQ b0 b1 T R
      go_wp2_with fail
      refine (HS.out _).mono ?_
      rintro e w6 ⟨rfl, h9⟩
      have S := Lib.hid (S.out.below h9)
      clear h9
      go_wp2_with fail
      go_ret
      exact ⟨by simp, S.out.bel⟩
    · go_wp2_with fail
      refine (HS.out _).mono ?_
      rintro e w6 ⟨rfl, h9⟩
      have S := Lib.hid (S.out.below h9)
      clear h9
      go_wp2_with fail
      go_ret
      exact ⟨by simp, S.out.bel⟩
    · obtain ⟨p1, p2⟩ := parse_place HP.out
      have hm1 : (m : Int) ≤ (s.size : Int) := by have : s.data.toList.length = s.size := rfl; omega
      have hm0 : (0 : Int) ≤ (m : Int) := by omega
      have hm2 : m ≤ s.size := by omega
      have P2 := Lib.hid p2
      clear p1 p2
      go_wp2_with fail
      clear b0 b1 T R
      refine (parse_any (s.extract 0 m) _).mono ?_
      rintro e w5 ⟨v, ts3, ss3, d3, n3, rfl, ⟨m3, rfl, hp3⟩, hr, h9⟩
      obtain ⟨X, nx, cx, Y, ny, cy, rfl, -, -⟩ := hr
      have ba := (Below.refl w5.heap.size w5).alloc (Nat.le_refl _) (.cells #[.slice X nx cx, .slice Y ny cy] 25)
      have S := Lib.hid ((S.out.below h9).below ba)
      have HQ : Hid (d3 = 7 → m3 = m) := Lib.hid fun e => by
        rw [extract_take] at hp3
        have := P2.out (by rw [hp3]; exact e)
        rw [hp3] at this
        exact this
      clear h9 ba hp3
      by_cases h7 : d3 = 7
      · obtain rfl := HQ.out h7
        subst h7
        go_wp2_with fail
        refine (HS.out _).mono ?_
        rintro e w6 ⟨rfl, h9⟩
        have S := Lib.hid (S.out.below h9)
        clear h9
        go_wp2_with fail
        go_ret
        exact ⟨by simp, S.out.bel⟩
      · have h7' : (d3 != 7) = true := bne_iff_ne.2 h7
        go_wp2_with fail
        refine (HS.out _).mono ?_
        rintro e w6 ⟨rfl, h9⟩
        have S := Lib.hid (S.out.below h9)
        clear h9
        go_wp2_with fail
        go_ret
        exact ⟨by simp, S.out.bel⟩
  · have h0z : (ck == 0) = false := beq_eq_false_iff_ne.2 h0
    go_wp2_with fail
    clear HRM
    refine (CT.out _).mono ?_
    rintro e w4 ⟨X2, nx2, cx2, Y2, ny2, cy2, rfl, hr, h9⟩
    have ba := (Below.refl w4.heap.size w4).alloc (Nat.le_refl _) (.cells #[.slice X2 nx2 cx2, .slice Y2 ny2 cy2] 25)
    have S := Lib.hid ((S.out.below h9).below ba)
    have T := Lib.hid (Two.new (W := w4) (x := .slice X2 nx2 cx2) (y := .slice Y2 ny2 cy2) 25)
    have R := Lib.hid (hr.up ba.size ba)
    clear h9 ba hr CT
    obtain ⟨b0, b1, _⟩ := T.out
    rcases parse_cases HP.out with ⟨rfl, rfl⟩ | ⟨rfl, rfl⟩ | rfl
    · obtain ⟨q1, q2, q3, q4, _⟩ := parse_text HP.out
      have CQ : Hid (∀ W v, RM W.heap.size v ts2 ss2 W → Tab W → Calls Tryd.prog 51 #[v] W fun e w' => e = .returned (.tuple #[.string s, .int .i64 0]) ∧ Below W.heap.size W w') := Lib.hid fun W v h ht => by
        have e2 : (⟨(textOf 0 ts2 ss2).toArray⟩ : ByteArray) = s := by
          have : textOf 0 ts2 ss2 = s.data.toList := q1.symm
          rw [this]
        have := print_any v ts2 ss2 0 W h (.inr (.inl ⟨q3, q4, q2, rfl⟩)) ht
        rwa [e2] at this
      clear q1 q2 q3 q4
      go_wp2_with fail
      refine (CQ.out _ _ R.out (HTB.out _ S.out)).mono ?_
      rintro e w5 ⟨rfl, h9⟩
      have S := Lib.hid (S.out.below h9)
      clear h9 CQ b0 b1 T R
      go_wp2_with fail
      refine (HS.out _).mono ?_
      rintro e w6 ⟨rfl, h9⟩
      have S := Lib.hid (S.out.below h9)
      clear h9
      go_wp2_with fail
      go_ret
      exact ⟨by simp, S.out.bel⟩
    · go_wp2_with fail
      refine (HS.out _).mono ?_
      rintro e w6 ⟨rfl, h9⟩
      have S := Lib.hid (S.out.below h9)
      clear h9
      go_wp2_with fail
      go_ret
      exact ⟨by simp, S.out.bel⟩
    · obtain ⟨p1, p2⟩ := parse_place HP.out
      have hm1 : (m : Int) ≤ (s.size : Int) := by have : s.data.toList.length = s.size := rfl; omega
      have hm0 : (0 : Int) ≤ (m : Int) := by omega
      have hm2 : m ≤ s.size := by omega
      have P2 := Lib.hid p2
      clear p1 p2
      go_wp2_with fail
      clear b0 b1 T R
      refine (parse_any (s.extract 0 m) _).mono ?_
      rintro e w5 ⟨v, ts3, ss3, d3, n3, rfl, ⟨m3, rfl, hp3⟩, hr, h9⟩
      obtain ⟨X, nx, cx, Y, ny, cy, rfl, -, -⟩ := hr
      have ba := (Below.refl w5.heap.size w5).alloc (Nat.le_refl _) (.cells #[.slice X nx cx, .slice Y ny cy] 25)
      have S := Lib.hid ((S.out.below h9).below ba)
      have HQ : Hid (d3 = 7 → m3 = m) := Lib.hid fun e => by
        rw [extract_take] at hp3
        have := P2.out (by rw [hp3]; exact e)
        rw [hp3] at this
        exact this
      clear h9 ba hp3
      by_cases h7 : d3 = 7
      · obtain rfl := HQ.out h7
        subst h7
        go_wp2_with fail
        refine (HS.out _).mono ?_
        rintro e w6 ⟨rfl, h9⟩
        have S := Lib.hid (S.out.below h9)
        clear h9
        go_wp2_with fail
        go_ret
        exact ⟨by simp, S.out.bel⟩
      · have h7' : (d3 != 7) = true := bne_iff_ne.2 h7
        go_wp2_with fail
        refine (HS.out _).mono ?_
        rintro e w6 ⟨rfl, h9⟩
        have S := Lib.hid (S.out.below h9)
        clear h9
        go_wp2_with fail
        go_ret
        exact ⟨by simp, S.out.bel⟩

theorem turnReadsBack_calls (hsan : ∀ W, Calls Tryd.prog 16 #[] W fun e w' => e = .returned (.bool true) ∧ Below W.heap.size W w') (A : Option Addr) (k c : Nat) (A' : Option Addr) (k' c' : Nat) (s : ByteArray) (w : World) (ho : k ≤ 1000000000000 → k' ≤ 1000000000000 → ∃ ts ss, RM w.heap.size (.agg #[.slice A k c, .slice A' k' c']) ts ss w) (ht : Tab w) :
    Calls Tryd.prog 14 #[.agg #[.slice A k c, .slice A' k' c'], .string s] w fun e w' => e = .returned (.bool true) ∧ Below w.heap.size w w' := by
  by_cases hn : 30 < k ∨ 50 < k' ∨ 3200 < s.size
  · exact back_no hsan A A' k c k' c' s w hn
  · obtain ⟨ts, ss, h⟩ := ho (by omega) (by omega)
    exact back_yes hsan A A' k c k' c' ts ss s w h ht (by omega) (by omega) (by omega)
end Go.Proofs.YtlhgpeelenelbaaDoor
