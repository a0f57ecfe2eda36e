/- Contracts of the specification's digits and can. -/
import Derived.Test.YtlhgpeelenelbaaDoorQC
import Derived.Laws.IdiomStrings
namespace Go.Proofs.YtlhgpeelenelbaaDoor
open Go.RowKit

theorem one_byte (w : World) (x : Nat) (hx : x < 10) : (convert 127 9 (.slice (some ⟨w.heap.size, 0, none⟩) 1 1)).run Tryd.prog (w.alloc (.cells #[.int .u8 (48 + (x : Int))] 5)) = .ok (.string ⟨#[UInt8.ofNat (48 + x)]⟩) (w.alloc (.cells #[.int .u8 (48 + (x : Int))] 5)) :=
  run_convert_bytes_back _ 127 9 5 ⟨w.heap.size, 0, none⟩ 1 [UInt8.ofNat (48 + x)] Tryd.underlying127 Tryd.underlying5 Tryd.underlying9 (fun j hj => by
    obtain rfl : j = 0 := by simp at hj; omega
    show _ = some (Value.int .u8 ((UInt8.ofNat (48 + x)).toNat : Int))
    rw [u8_of hx]
    simp [go_sem, Addr.add])
theorem dec_len {u : Nat} (h : u ≤ 9007199254740992) : (Lib.decDigits u).length ≤ 21 := by
  have := Lib.itoa_length_le (u : Int) (by omega) (by omega)
  rwa [Lib.itoa_nonneg] at this

set_option maxHeartbeats 4000000 in
set_option maxRecDepth 100000 in
theorem digits_any : ∀ (u : Nat) (w : World), u ≤ 9007199254740992 → Calls Tryd.prog 110 #[.int .i64 u] w fun e w' => e = .returned (.string ⟨(Lib.decDigits u).toArray⟩) ∧ Below w.heap.size w w' := by
  intro u
  induction u using Nat.strongRecOn with
  | ind u ih =>
    intro w hu
    obtain ⟨x, hx⟩ : ∃ x, u % 10 = x := ⟨_, rfl⟩
    have hx10 : x < 10 := by omega
    have W1 : (u : Int).tmod 10 = (x : Int) := by rw [Int.tmod_eq_emod_of_nonneg (by omega)]; omega
    have W2 : IntKind.i64.wrap (x : Int) = (x : Int) := IntWalk.i64_in _ (by omega)
    have W3 : IntKind.i64.wrap (48 + (x : Int)) = 48 + (x : Int) := IntWalk.i64_in _ (by omega)
    have W4 : IntKind.u8.wrap (48 + (x : Int)) = 48 + (x : Int) := IntWalk.u8_in _ (by omega)
    have HX := Lib.hid hx
    have HB : Hid (Below w.heap.size w (w.alloc (.cells #[.int .u8 (48 + (x : Int))] 5))) := Lib.hid ((Below.refl _ _).alloc (Nat.le_refl _) _)
    obtain ⟨ch, hch⟩ : ∃ ch, UInt8.ofNat (48 + x) = ch := ⟨_, rfl⟩
    have HO := Lib.hid (one_byte w x hx10)
    rw [hch] at HO
    have HCH := Lib.hid hch
    clear hx hch
    by_cases h : u < 10
    · have h' : (u : Int) < 10 := by omega
      have HR : Hid (Lib.decDigits u = [ch]) := Lib.hid (by rw [Lib.decDigits_one h, ← HCH.out, ← HX.out, Nat.mod_eq_of_lt h])
      clear ih
      go_enter Tryd.func110, Tryd.ntmps110
      go_wp2_with fail
      rw [HO.out]
      simp only [Result.andThen]
      rw [Oper.upon_value]
      go_wp2_with fail
      go_ret
      exact ⟨by rw [HR.out]; rfl, HB.out⟩
    · have h' : ¬ (u : Int) < 10 := by omega
      obtain ⟨q, hq⟩ : ∃ q, u / 10 = q := ⟨_, rfl⟩
      have W5 : (u : Int).tdiv 10 = (q : Int) := by rw [Int.tdiv_eq_ediv_of_nonneg (by omega)]; omega
      have W6 : IntKind.i64.wrap (q : Int) = (q : Int) := IntWalk.i64_in _ (by omega)
      have HR : Hid (Lib.decDigits u = Lib.decDigits q ++ [ch]) := Lib.hid (by rw [Lib.decDigits, dif_neg h, hq, HX.out, HCH.out])
      have hqu : q < u := by omega
      have C := Lib.hid fun W => ih q hqu W (by omega)
      have HL := Lib.hid (dec_len (u := q) (by omega))
      clear ih hq
      generalize Lib.decDigits q = D at *
      have hs1 : ((⟨D.toArray⟩ : ByteArray).size : Int) ≤ 8388608 := by have := HL.out; show ((D.toArray.size : Nat) : Int) ≤ _; rw [List.size_toArray]; omega
      have hs2 : ((⟨#[ch]⟩ : ByteArray).size : Int) ≤ 8388608 := by show ((1 : Nat) : Int) ≤ _; omega
      go_enter Tryd.func110, Tryd.ntmps110
      go_wp2_with fail
      rw [HO.out]
      simp only [Result.andThen]
      rw [Oper.upon_value]
      go_wp2_with fail
      refine (C.out _).mono ?_
      rintro e w1 ⟨rfl, h1⟩
      have HB2 := Lib.hid (HB.out.trans (h1.mono (by simp)))
      clear h1
      go_wp2_with fail
      go_ret
      exact ⟨by rw [HR.out, show (⟨(D ++ [ch]).toArray⟩ : ByteArray) = ⟨D.toArray⟩ ++ ⟨[ch].toArray⟩ from (ByteArray.mk_append_mk ..).symm]; rfl, HB2.out⟩

set_option maxHeartbeats 1000000 in
theorem can_any (n lo hi : Int) (w : World) (h0 : 0 ≤ n) (h1 : n ≤ 100000000) (l0 : 0 ≤ lo) (h2 : lo ≤ 100000000) (h3 : hi ≤ 100000000) :
    Calls Tryd.prog 136 #[.int .i64 n, .int .i64 lo, .int .i64 hi] w fun e w' => e = .returned (.bool (beginsB n lo hi)) ∧ w = w' := by
  by_cases hn : n = 0
  · subst hn
    have HR : Hid (beginsB 0 lo hi = decide (lo = 0)) := Lib.hid rfl
    by_cases hl : lo = 0
    · subst hl
      go_enter Tryd.func136, Tryd.ntmps136
      go_wp2_with fail
      go_ret
      exact ⟨by rw [HR.out]; rfl, rfl⟩
    · have hl' : ¬ lo ≤ 0 := by omega
      have HL := Lib.hid hl
      clear hl
      go_enter Tryd.func136, Tryd.ntmps136
      go_wp2_with fail
      go_ret
      exact ⟨by rw [HR.out]; simp [HL.out], rfl⟩
  · have hn' : (n == 0) = false := by simpa using hn
    have HR : Hid (canL (hi + 1 - n).toNat n n lo hi = beginsB n lo hi) := Lib.hid (by unfold beginsB; rw [if_neg hn])
    generalize beginsB n lo hi = R at *
    have hn1 : 1 ≤ n := by omega
    clear hn
    go_enter Tryd.func136, Tryd.ntmps136
    go_wp2_with fail
    clear hn'
    go_loop [7, 8] (fun u v => ∃ low high : Int, u = .int .i64 low ∧ v = .int .i64 high ∧ 1 ≤ low ∧ low ≤ 1000000000 ∧ 1 ≤ high ∧ high ≤ 1000000009 ∧ canL (hi + 1 - low).toNat low high lo hi = R) (fun u _ => (hi + 1 - intOf u).toNat)
    case atStart => exact ⟨n, n, rfl, rfl, hn1, by omega, hn1, by omega, HR.out⟩
    case round =>
      obtain ⟨low, high, rfl, rfl, a1, a2, a3, a4, hr⟩ := hrel
      have HRR := Lib.hid hr
      clear hr
      by_cases c : low ≤ hi
      · by_cases c2 : lo ≤ high
        · go_wp2_with fail
          go_ret
          exact ⟨by rw [← HRR.out, canL_yes c c2]; rfl, rfl⟩
        · go_wp2_with fail
          go_round
          case rel => exact ⟨10 * low, 10 * high + 9, rfl, rfl, by omega, by omega, by omega, by omega, by rw [Int.mul_comm 10 low, Int.mul_comm 10 high, ← canL_go a1 c c2]; exact HRR.out⟩
          case measure => show (hi + 1 - 10 * low).toNat < (hi + 1 - low).toNat; omega
      · go_wp2_with fail
        go_ret
        exact ⟨by rw [← HRR.out, canL_stop (by omega)]; rfl, rfl⟩
end Go.Proofs.YtlhgpeelenelbaaDoor

/- Contract of the specification's Print. -/
namespace Go.Proofs.YtlhgpeelenelbaaDoor
open Go.RowKit

theorem newline_new (W : World) : (W.alloc (.cells #[.int .u8 10] 5)).cell? ⟨W.heap.size, 0, none⟩ = some (.int .u8 10) := by simp [go_sem]
theorem newline_conv {W : World} {b : Nat} (h : W.cell? ⟨b, 0, none⟩ = some (.int .u8 10)) : (convert 127 9 (.slice (some ⟨b, 0, none⟩) 1 1)).run Tryd.prog W = .ok (.string ⟨#[10]⟩) W :=
  run_convert_bytes_back _ 127 9 5 ⟨b, 0, none⟩ 1 [10] Tryd.underlying127 Tryd.underlying5 Tryd.underlying9 (fun j hj => by
    obtain rfl : j = 0 := by simp at hj; omega
    exact h)
theorem below_cell_of {W W' : World} (h : Below W.heap.size W W') {p : Addr} {v : Value} (hc : W.cell? p = some v) : W'.cell? p = some v := (h.cell (World.block_lt_of_cell? W p hc)).trans hc
theorem digits_int (n : Int) (w : World) (h0 : 0 ≤ n) (h1 : n ≤ 2000000) : Calls Tryd.prog 110 #[.int .i64 n] w fun e w' => e = .returned (.string ⟨(Lib.itoa n).toArray⟩) ∧ Below w.heap.size w w' := by
  obtain ⟨u, rfl⟩ : ∃ u : Nat, n = u := ⟨n.toNat, by omega⟩
  rw [Lib.itoa_nonneg]
  exact digits_any u w (by omega)
theorem size_of {l : List UInt8} : (⟨l.toArray⟩ : ByteArray).size = l.length := by show l.toArray.size = _; rw [List.size_toArray]
/-- Print's set, and the span that is printed. -/
def PrS (w : World) (v0 v1 : Value) (b o : Nat) (p f : Int) (W : World) : Prop :=
  NS w v0 v1 W ∧ W.cell? ⟨b, o, none⟩ = some (.int .i64 p) ∧ W.cell? ⟨b, o + 1, none⟩ = some (.int .i64 f)
section
variable {w W W' : World} {v0 v1 : Value} {b o : Nat} {p f : Int}
theorem PrS.below (h : PrS w v0 v1 b o p f W) (hb : Below W.heap.size W W') : PrS w v0 v1 b o p f W' := ⟨NSd.below h.1 hb, below_cell_of hb h.2.1, below_cell_of hb h.2.2⟩
theorem PrS.alloc (h : PrS w v0 v1 b o p f W) (x : Obj) : PrS w v0 v1 b o p f (W.alloc x) := h.below ((Below.refl _ _).alloc (Nat.le_refl _) x)
theorem PrS.drew (h : PrS w v0 v1 b o p f W) : PrS w v0 v1 b o p f W.drew := h.below (Below.refl _ _).drew
end
/-- Print's set, and the turn that is printed. -/
def PrD (w : World) (v0 v1 : Value) (bt : Nat) (p f l : Int) (W : World) : Prop :=
  NS w v0 v1 W ∧ W.cell? ⟨bt, 0, none⟩ = some (.int .i64 p) ∧ W.cell? ⟨bt, 1, none⟩ = some (.int .i64 f) ∧ W.cell? ⟨bt, 2, none⟩ = some (.int .i64 l)
section
variable {w W W' : World} {v0 v1 : Value} {bt : Nat} {p f l : Int}
theorem PrD.below (h : PrD w v0 v1 bt p f l W) (hb : Below W.heap.size W W') : PrD w v0 v1 bt p f l W' := ⟨NSd.below h.1 hb, below_cell_of hb h.2.1, below_cell_of hb h.2.2.1, below_cell_of hb h.2.2.2⟩
theorem PrD.alloc (h : PrD w v0 v1 bt p f l W) (o : Obj) : PrD w v0 v1 bt p f l (W.alloc o) := h.below ((Below.refl _ _).alloc (Nat.le_refl _) o)
theorem PrD.drew (h : PrD w v0 v1 bt p f l W) : PrD w v0 v1 bt p f l W.drew := h.below (Below.refl _ _).drew
theorem PrD.c (h : PrD w v0 v1 bt p f l W) : W.cell? ⟨bt, 0, none⟩ = some (.int .i64 p) ∧ W.cell? ⟨bt, 1, none⟩ = some (.int .i64 f) ∧ W.cell? ⟨bt, 2, none⟩ = some (.int .i64 l) := h.2
end

set_option maxHeartbeats 16000000 in
set_option maxRecDepth 100000 in
theorem rprint_ok (v : Value) (ts : List T3) (ss : List S2) (w : World) (h : RM w.heap.size v ts ss w) (hc : CheckIs ts ss 0) :
    Calls Tryd.prog 52 #[v] w (PrintPost ts ss w) := by
  obtain ⟨k1, k2, k3⟩ := checkIs_ok hc
  have HK := Lib.hid k3
  obtain ⟨A, m, ca, A', m', ca', rfl, r1, r2⟩ := id h
  have C := Lib.hid fun W (S : NSd w (.slice A m ca) (.slice A' m' ca') W) => rcheck_any _ _ ts ss 0 W (r1.up S.siz S.bel) (r2.up S.siz S.bel) hc
  obtain ⟨A1, c1, e1, n1, hx⟩ := r1
  obtain ⟨rfl, rfl, rfl⟩ : A = A1 ∧ m = ts.length ∧ ca = c1 := by simpa using e1
  obtain ⟨A2, c2, e2, n2, hy⟩ := r2
  obtain ⟨rfl, rfl, rfl⟩ : A' = A2 ∧ m' = ss.length ∧ ca' = c2 := by simpa using e2
  have HX := Lib.hid hx
  have HY := Lib.hid hy
  have S0 := Lib.hid (NSd.new (w := w) (v0 := .slice A ts.length ca) (v1 := .slice A' ss.length ca') 25)
  clear h hc hx hy e1 e2 k3
  go_enter Tryd.func52, Tryd.ntmps52
  go_wp2_with fail
  refine (C.out _ S0.out).mono ?_
  rintro e w1 ⟨rfl, h1⟩
  have S := Lib.hid (S0.out.below h1)
  clear h1 S0 C
  go_wp2_with fail
  go_loopw [5, 6] (fun o u wr => ∃ k : Nat, u = .int .i64 k ∧ k ≤ ts.length ∧ o = .string ⟨(textTs (ts.take k)).toArray⟩ ∧ NSd w (.slice A ts.length ca) (.slice A' ss.length ca') wr) (fun _ u _ => ts.length - (intOf u).toNat)
  case atStart => exact ⟨0, rfl, by omega, rfl, S.out⟩
  case round =>
    obtain ⟨k, rfl, hk, rfl, hS⟩ := hrel
    clear S
    have S := Lib.hid hS
    clear hS
    obtain ⟨t0, t1, t2, _⟩ := S.out.out
    by_cases hkn : k < ts.length
    · obtain ⟨b1, o1, rfl, l1, x1⟩ := HX.out (by omega)
      obtain ⟨⟨p, f, l⟩, ht⟩ : ∃ t, ts[k]? = some t := ⟨_, List.getElem?_eq_getElem hkn⟩
      obtain ⟨a0, a1, a2⟩ := x1 k p f l ht
      have c0 := (S.out.bel.cell (p := ⟨b1, o1 + k * 3, none⟩) l1).trans a0
      have c1 := (S.out.bel.cell (p := ⟨b1, o1 + k * 3 + 1, none⟩) l1).trans a1
      have c2 := (S.out.bel.cell (p := ⟨b1, o1 + k * 3 + 2, none⟩) l1).trans a2
      have hk0 : (k : Int) < (ts.length : Int) := by omega
      obtain ⟨o, ho⟩ : ∃ o : ByteArray, (⟨(textTs (ts.take k)).toArray⟩ : ByteArray) = o := ⟨_, rfl⟩
      have HO := Lib.hid ho
      rw [ho]
      clear x1 a0 a1 a2 ho
      go_wp2_with fail
      have S' : Hid (PrD w (.slice (some ⟨b1, o1, none⟩) ts.length ca) (.slice A' ss.length ca') wr.heap.size p f l (wr.alloc (.cells #[.int .i64 p, .int .i64 f, .int .i64 l] 27)).drew) := Lib.hid ⟨NSd.drew (NSd.alloc S.out _), by simp [go_sem], by simp [go_sem], by simp [go_sem]⟩
      obtain ⟨q1, q2, q3, q4, q5, q6⟩ := HK.out.1 _ (List.mem_of_getElem? ht)
      simp only at q1 q2 q3 q4 q5 q6
      have Dp := Lib.hid fun W => digits_int p W (by omega) (by omega)
      have zp : (⟨(Lib.itoa p).toArray⟩ : ByteArray).size ≤ 7 := by rw [size_of]; have := itoa_len (n := p) (by omega) (by omega); omega
      have Hp : Hid (∃ q : ByteArray, q = ⟨(Lib.itoa p).toArray⟩) := Lib.hid ⟨_, rfl⟩
      obtain ⟨dp, hdp⟩ : ∃ q : ByteArray, (⟨(Lib.itoa p).toArray⟩ : ByteArray) = q := ⟨_, rfl⟩
      rw [hdp] at Dp zp
      have Ep := Lib.hid hdp
      clear hdp Hp
      have Df := Lib.hid fun W => digits_int f W (by omega) (by omega)
      have zf : (⟨(Lib.itoa f).toArray⟩ : ByteArray).size ≤ 7 := by rw [size_of]; have := itoa_len (n := f) (by omega) (by omega); omega
      have Hf : Hid (∃ q : ByteArray, q = ⟨(Lib.itoa f).toArray⟩) := Lib.hid ⟨_, rfl⟩
      obtain ⟨df, hdf⟩ : ∃ q : ByteArray, (⟨(Lib.itoa f).toArray⟩ : ByteArray) = q := ⟨_, rfl⟩
      rw [hdf] at Df zf
      have Ef := Lib.hid hdf
      clear hdf Hf
      have Dl := Lib.hid fun W => digits_int l W (by omega) (by omega)
      have zl : (⟨(Lib.itoa l).toArray⟩ : ByteArray).size ≤ 7 := by rw [size_of]; have := itoa_len (n := l) (by omega) (by omega); omega
      have Hl : Hid (∃ q : ByteArray, q = ⟨(Lib.itoa l).toArray⟩) := Lib.hid ⟨_, rfl⟩
      obtain ⟨dl, hdl⟩ : ∃ q : ByteArray, (⟨(Lib.itoa l).toArray⟩ : ByteArray) = q := ⟨_, rfl⟩
      rw [hdl] at Dl zl
      have El := Lib.hid hdl
      clear hdl Hl
      have zo : o.size ≤ 2000 := by rw [← HO.out, size_of]; have := textTs_short (ts.take k) (fun t h => HK.out.1 t (List.mem_of_mem_take h)); rw [List.length_take] at this; omega
      have HE : Hid (o ++ ⟨#[101, 118, 101, 114, 121, 32]⟩ ++ dp ++ ⟨#[32, 102, 114, 111, 109, 32]⟩ ++ df ++ ⟨#[32, 102, 111, 114, 32]⟩ ++ dl ++ ⟨#[59]⟩ ++ ⟨#[10]⟩ = (⟨(textTs (ts.take (k + 1))).toArray⟩ : ByteArray)) := Lib.hid (by
        rw [← HO.out, ← Ep.out, ← Ef.out, ← El.out, List.take_add_one, ht]
        show (⟨(textTs (ts.take k)).toArray⟩ : ByteArray) ++ ⟨wEvery.toArray⟩ ++ ⟨(Lib.itoa p).toArray⟩ ++ ⟨wFrom.toArray⟩ ++ ⟨(Lib.itoa f).toArray⟩ ++ ⟨wFor.toArray⟩ ++ ⟨(Lib.itoa l).toArray⟩ ++ ⟨([59] : List UInt8).toArray⟩ ++ ⟨([10] : List UInt8).toArray⟩ = _
        simp only [ByteArray.mk_append_mk, Option.toList_some, textTs_snoc, textT, wEnd, List.append_assoc]
        rfl)
      clear t0 t1 t2 c0 c1 c2 ht
      have S := S'
      clear S'
      refine wp_region_held_drew (S := PrD w (.slice (some ⟨b1, o1, none⟩) ts.length ca) (.slice A' ss.length ca') wr.heap.size p f l) (by kernel_rfl) ?_ (fun hHeld => ?_)
      · exact S.out
      generalize (wr.alloc (.cells #[.int .i64 p, .int .i64 f, .int .i64 l] 27)).drew = w4 at *
      refine takeW (i := 0) (d := some 26) (v := ?_) rfl rfl (by kernel_rfl) (by kernel_rfl) (by kernel_rfl) (fun _ _ _ h => h) (by rfl) ?_ (by assumption) ?_
      rotate_left
      · (intro w hSw; obtain ⟨_, q0, q1, q2⟩ := hSw; go_simp; (try rw [if_neg (by omega)]); try with_reducible rfl)
      try simp only [Act.put, List.setIfInBounds_toArray, List.set_cons_zero, List.set_cons_succ]
      refine takeW (i := 1) (d := some 27) (v := ?_) rfl rfl (by kernel_rfl) (by kernel_rfl) (by kernel_rfl) (fun _ _ _ h => h) (by rfl) ?_ (by assumption) ?_
      rotate_left
      · (intro w hSw; obtain ⟨_, q0, q1, q2⟩ := hSw; go_simp; (try rw [if_neg (by omega)]); try with_reducible rfl)
      try simp only [Act.put, List.setIfInBounds_toArray, List.set_cons_zero, List.set_cons_succ]
      refine takeW (i := 2) (d := some 28) (v := ?_) rfl rfl (by kernel_rfl) (by kernel_rfl) (by kernel_rfl) (fun _ _ _ h => h) (by rfl) ?_ (by assumption) ?_
      rotate_left
      · (intro w hSw; obtain ⟨_, q0, q1, q2⟩ := hSw; go_simp; (try rw [if_neg (by omega)]); try with_reducible rfl)
      try simp only [Act.put, List.setIfInBounds_toArray, List.set_cons_zero, List.set_cons_succ]
      refine takeW (i := 3) (d := some 29) (v := ?_) rfl rfl (by kernel_rfl) (by kernel_rfl) (by kernel_rfl) (fun _ _ _ h => h) (by rfl) ?_ (by assumption) ?_
      rotate_left
      · (intro w hSw; obtain ⟨_, q0, q1, q2⟩ := hSw; go_simp; (try rw [if_neg (by omega)]); try with_reducible rfl)
      try simp only [Act.put, List.setIfInBounds_toArray, List.set_cons_zero, List.set_cons_succ]
      refine takeW (i := 7) (d := some 33) (v := ?_) rfl rfl (by kernel_rfl) (by kernel_rfl) (by kernel_rfl) (fun _ _ _ h => h) (by rfl) ?_ (by assumption) ?_
      rotate_left
      · (intro w hSw; obtain ⟨_, q0, q1, q2⟩ := hSw; go_simp; (try rw [if_neg (by omega)]); try with_reducible rfl)
      try simp only [Act.put, List.setIfInBounds_toArray, List.set_cons_zero, List.set_cons_succ]
      refine takeW (i := 8) (d := some 34) (v := ?_) rfl rfl (by kernel_rfl) (by kernel_rfl) (by kernel_rfl) (fun _ _ _ h => h) (by rfl) ?_ (by assumption) ?_
      rotate_left
      · (intro w hSw; obtain ⟨_, q0, q1, q2⟩ := hSw; go_simp; (try rw [if_neg (by omega)]); try with_reducible rfl)
      try simp only [Act.put, List.setIfInBounds_toArray, List.set_cons_zero, List.set_cons_succ]
      refine takeW (i := 12) (d := some 38) (v := ?_) rfl rfl (by kernel_rfl) (by kernel_rfl) (by kernel_rfl) (fun _ _ _ h => h) (by rfl) ?_ (by assumption) ?_
      rotate_left
      · (intro w hSw; obtain ⟨_, q0, q1, q2⟩ := hSw; go_simp; (try rw [if_neg (by omega)]); try with_reducible rfl)
      try simp only [Act.put, List.setIfInBounds_toArray, List.set_cons_zero, List.set_cons_succ]
      refine takeW (i := 13) (d := some 39) (v := ?_) rfl rfl (by kernel_rfl) (by kernel_rfl) (by kernel_rfl) (fun _ _ _ h => h) (by rfl) ?_ (by assumption) ?_
      rotate_left
      · (intro w hSw; obtain ⟨_, q0, q1, q2⟩ := hSw; go_simp; (try rw [if_neg (by omega)]); try with_reducible rfl)
      try simp only [Act.put, List.setIfInBounds_toArray, List.set_cons_zero, List.set_cons_succ]
      refine wpAnyH_ready (rs := [4, 17]) (by kernel_rfl) (by simp) ?_
      refine AllReadyH.cons rfl (fun K hK => ?_) (AllReadyH.cons rfl (fun K hK => ?_) (AllReadyH.nil))
      · go_simp
        refine (Dp.out _).mono ?_
        rintro e w4 ⟨rfl, b1⟩
        have S := Lib.hid (S.out.below b1)
        clear b1
        refine hK.out _ _ ?_ (fun hHeld => ?_)
        · exact S.out
        clear hK K
        try simp only [Act.put, List.setIfInBounds_toArray, List.set_cons_zero, List.set_cons_succ]
        refine takeW (i := 5) (d := some 31) (v := ?_) rfl rfl (by kernel_rfl) (by kernel_rfl) (by kernel_rfl) (fun _ _ _ h => h) (by rfl) ?_ (by assumption) ?_
        rotate_left
        · (intro w hSw; obtain ⟨_, q0, q1, q2⟩ := hSw; go_simp; (try rw [if_neg (by omega)]); try with_reducible rfl)
        try simp only [Act.put, List.setIfInBounds_toArray, List.set_cons_zero, List.set_cons_succ]
        refine takeW (i := 6) (d := some 32) (v := ?_) rfl rfl (by kernel_rfl) (by kernel_rfl) (by kernel_rfl) (fun _ _ _ h => h) (by rfl) ?_ (by assumption) ?_
        rotate_left
        · (intro w hSw; obtain ⟨_, q0, q1, q2⟩ := hSw; go_simp; (try rw [if_neg (by omega)]); try with_reducible rfl)
        try simp only [Act.put, List.setIfInBounds_toArray, List.set_cons_zero, List.set_cons_succ]
        refine wpAnyH_ready (rs := [9, 17]) (by kernel_rfl) (by simp) ?_
        refine AllReadyH.cons rfl (fun K hK => ?_) (AllReadyH.cons rfl (fun K hK => ?_) (AllReadyH.nil))
        · go_simp
          refine (Df.out _).mono ?_
          rintro e w4 ⟨rfl, b1⟩
          have S := Lib.hid (S.out.below b1)
          clear b1
          refine hK.out _ _ ?_ (fun hHeld => ?_)
          · exact S.out
          clear hK K
          try simp only [Act.put, List.setIfInBounds_toArray, List.set_cons_zero, List.set_cons_succ]
          refine takeW (i := 10) (d := some 36) (v := ?_) rfl rfl (by kernel_rfl) (by kernel_rfl) (by kernel_rfl) (fun _ _ _ h => h) (by rfl) ?_ (by assumption) ?_
          rotate_left
          · (intro w hSw; obtain ⟨_, q0, q1, q2⟩ := hSw; go_simp; (try rw [if_neg (by omega)]); try with_reducible rfl)
          try simp only [Act.put, List.setIfInBounds_toArray, List.set_cons_zero, List.set_cons_succ]
          refine takeW (i := 11) (d := some 37) (v := ?_) rfl rfl (by kernel_rfl) (by kernel_rfl) (by kernel_rfl) (fun _ _ _ h => h) (by rfl) ?_ (by assumption) ?_
          rotate_left
          · (intro w hSw; obtain ⟨_, q0, q1, q2⟩ := hSw; go_simp; (try rw [if_neg (by omega)]); try with_reducible rfl)
          try simp only [Act.put, List.setIfInBounds_toArray, List.set_cons_zero, List.set_cons_succ]
          refine wpAnyH_ready (rs := [14, 17]) (by kernel_rfl) (by simp) ?_
          refine AllReadyH.cons rfl (fun K hK => ?_) (AllReadyH.cons rfl (fun K hK => ?_) (AllReadyH.nil))
          · go_simp
            refine (Dl.out _).mono ?_
            rintro e w4 ⟨rfl, b1⟩
            have S := Lib.hid (S.out.below b1)
            clear b1
            refine hK.out _ _ ?_ (fun hHeld => ?_)
            · exact S.out
            clear hK K
            try simp only [Act.put, List.setIfInBounds_toArray, List.set_cons_zero, List.set_cons_succ]
            refine takeW (i := 15) (d := some 41) (v := ?_) rfl rfl (by kernel_rfl) (by kernel_rfl) (by kernel_rfl) (fun _ _ _ h => h) (by rfl) ?_ (by assumption) ?_
            rotate_left
            · (intro w hSw; obtain ⟨_, q0, q1, q2⟩ := hSw; go_simp; (try rw [if_neg (by omega)]); try with_reducible rfl)
            try simp only [Act.put, List.setIfInBounds_toArray, List.set_cons_zero, List.set_cons_succ]
            refine takeW (i := 16) (d := some 42) (v := ?_) rfl rfl (by kernel_rfl) (by kernel_rfl) (by kernel_rfl) (fun _ _ _ h => h) (by rfl) ?_ (by assumption) ?_
            rotate_left
            · (intro w hSw; obtain ⟨_, q0, q1, q2⟩ := hSw; go_simp; (try rw [if_neg (by omega)]); try with_reducible rfl)
            try simp only [Act.put, List.setIfInBounds_toArray, List.set_cons_zero, List.set_cons_succ]
            refine wpAnyH_ready (rs := [17]) (by kernel_rfl) (by simp) ?_
            refine AllReadyH.cons rfl (fun K hK => ?_) (AllReadyH.nil)
            · go_simp
              have CB := Lib.hid (newline_new w4)
              have S := Lib.hid (S.out.alloc (.cells #[.int .u8 10] 5))
              refine hK.out _ _ ?_ (fun hHeld => ?_)
              · exact S.out
              clear hK K
              try simp only [Act.put, List.setIfInBounds_toArray, List.set_cons_zero, List.set_cons_succ]
              generalize w4.alloc (.cells #[.int .u8 10] 5) = w4 at *
              refine wpAnyH_ready (rs := [18]) (by kernel_rfl) (by simp) ?_
              refine AllReadyH.cons rfl (fun K hK => ?_) (AllReadyH.nil)
              · go_simp
                rw [newline_conv CB.out]
                go_simp
                refine hK.out _ _ ?_ (fun hHeld => ?_)
                · exact S.out
                clear hK K
                try simp only [Act.put, List.setIfInBounds_toArray, List.set_cons_zero, List.set_cons_succ]
                refine takeW (i := 19) (d := some 45) (v := ?_) rfl rfl (by kernel_rfl) (by kernel_rfl) (by kernel_rfl) (fun _ _ _ h => h) (by rfl) ?_ (by assumption) ?_
                rotate_left
                · (intro w hSw; obtain ⟨_, q0, q1, q2⟩ := hSw; go_simp; (try rw [if_neg (by omega)]); try with_reducible rfl)
                try simp only [Act.put, List.setIfInBounds_toArray, List.set_cons_zero, List.set_cons_succ]
                refine takeW (i := 20) (d := some 5) (v := ?_) rfl rfl (by kernel_rfl) (by kernel_rfl) (by kernel_rfl) (fun _ _ _ h => h) (by rfl) ?_ (by assumption) ?_
                rotate_left
                · (intro w hSw; obtain ⟨_, q0, q1, q2⟩ := hSw; go_simp; (try rw [if_neg (by omega)]); try with_reducible rfl)
                try simp only [Act.put, List.setIfInBounds_toArray, List.set_cons_zero, List.set_cons_succ]
                refine wpAnyH_done (by kernel_rfl) ?_ _
                go_wp2_with fail
                go_roundw
                case rel => exact ⟨k + 1, by go_num, by omega, congrArg Value.string HE.out, S.out.1⟩
                case measure => show ts.length - ((k : Int) + 1).toNat < ts.length - (k : Int).toNat; omega
          · go_simp
            have CB := Lib.hid (newline_new w4)
            have S := Lib.hid (S.out.alloc (.cells #[.int .u8 10] 5))
            refine hK.out _ _ ?_ (fun hHeld => ?_)
            · exact S.out
            clear hK K
            try simp only [Act.put, List.setIfInBounds_toArray, List.set_cons_zero, List.set_cons_succ]
            generalize w4.alloc (.cells #[.int .u8 10] 5) = w4 at *
            refine wpAnyH_ready (rs := [14, 18]) (by kernel_rfl) (by simp) ?_
            refine AllReadyH.cons rfl (fun K hK => ?_) (AllReadyH.cons rfl (fun K hK => ?_) (AllReadyH.nil))
            · go_simp
              refine (Dl.out _).mono ?_
              rintro e w4 ⟨rfl, b1⟩
              have S := Lib.hid (S.out.below b1)
              have CB := Lib.hid (below_cell_of b1 CB.out)
              clear b1
              refine hK.out _ _ ?_ (fun hHeld => ?_)
              · exact S.out
              clear hK K
              try simp only [Act.put, List.setIfInBounds_toArray, List.set_cons_zero, List.set_cons_succ]
              refine takeW (i := 15) (d := some 41) (v := ?_) rfl rfl (by kernel_rfl) (by kernel_rfl) (by kernel_rfl) (fun _ _ _ h => h) (by rfl) ?_ (by assumption) ?_
              rotate_left
              · (intro w hSw; obtain ⟨_, q0, q1, q2⟩ := hSw; go_simp; (try rw [if_neg (by omega)]); try with_reducible rfl)
              try simp only [Act.put, List.setIfInBounds_toArray, List.set_cons_zero, List.set_cons_succ]
              refine takeW (i := 16) (d := some 42) (v := ?_) rfl rfl (by kernel_rfl) (by kernel_rfl) (by kernel_rfl) (fun _ _ _ h => h) (by rfl) ?_ (by assumption) ?_
              rotate_left
              · (intro w hSw; obtain ⟨_, q0, q1, q2⟩ := hSw; go_simp; (try rw [if_neg (by omega)]); try with_reducible rfl)
              try simp only [Act.put, List.setIfInBounds_toArray, List.set_cons_zero, List.set_cons_succ]
              refine wpAnyH_ready (rs := [18]) (by kernel_rfl) (by simp) ?_
              refine AllReadyH.cons rfl (fun K hK => ?_) (AllReadyH.nil)
              · go_simp
                rw [newline_conv CB.out]
                go_simp
                refine hK.out _ _ ?_ (fun hHeld => ?_)
                · exact S.out
                clear hK K
                try simp only [Act.put, List.setIfInBounds_toArray, List.set_cons_zero, List.set_cons_succ]
                refine takeW (i := 19) (d := some 45) (v := ?_) rfl rfl (by kernel_rfl) (by kernel_rfl) (by kernel_rfl) (fun _ _ _ h => h) (by rfl) ?_ (by assumption) ?_
                rotate_left
                · (intro w hSw; obtain ⟨_, q0, q1, q2⟩ := hSw; go_simp; (try rw [if_neg (by omega)]); try with_reducible rfl)
                try simp only [Act.put, List.setIfInBounds_toArray, List.set_cons_zero, List.set_cons_succ]
                refine takeW (i := 20) (d := some 5) (v := ?_) rfl rfl (by kernel_rfl) (by kernel_rfl) (by kernel_rfl) (fun _ _ _ h => h) (by rfl) ?_ (by assumption) ?_
                rotate_left
                · (intro w hSw; obtain ⟨_, q0, q1, q2⟩ := hSw; go_simp; (try rw [if_neg (by omega)]); try with_reducible rfl)
                try simp only [Act.put, List.setIfInBounds_toArray, List.set_cons_zero, List.set_cons_succ]
                refine wpAnyH_done (by kernel_rfl) ?_ _
                go_wp2_with fail
                go_roundw
                case rel => exact ⟨k + 1, by go_num, by omega, congrArg Value.string HE.out, S.out.1⟩
                case measure => show ts.length - ((k : Int) + 1).toNat < ts.length - (k : Int).toNat; omega
            · go_simp
              rw [newline_conv CB.out]
              go_simp
              refine hK.out _ _ ?_ (fun hHeld => ?_)
              · exact S.out
              clear hK K
              try simp only [Act.put, List.setIfInBounds_toArray, List.set_cons_zero, List.set_cons_succ]
              refine wpAnyH_ready (rs := [14]) (by kernel_rfl) (by simp) ?_
              refine AllReadyH.cons rfl (fun K hK => ?_) (AllReadyH.nil)
              · go_simp
                refine (Dl.out _).mono ?_
                rintro e w4 ⟨rfl, b1⟩
                have S := Lib.hid (S.out.below b1)
                clear b1
                refine hK.out _ _ ?_ (fun hHeld => ?_)
                · exact S.out
                clear hK K
                try simp only [Act.put, List.setIfInBounds_toArray, List.set_cons_zero, List.set_cons_succ]
                refine takeW (i := 15) (d := some 41) (v := ?_) rfl rfl (by kernel_rfl) (by kernel_rfl) (by kernel_rfl) (fun _ _ _ h => h) (by rfl) ?_ (by assumption) ?_
                rotate_left
                · (intro w hSw; obtain ⟨_, q0, q1, q2⟩ := hSw; go_simp; (try rw [if_neg (by omega)]); try with_reducible rfl)
                try simp only [Act.put, List.setIfInBounds_toArray, List.set_cons_zero, List.set_cons_succ]
                refine takeW (i := 16) (d := some 42) (v := ?_) rfl rfl (by kernel_rfl) (by kernel_rfl) (by kernel_rfl) (fun _ _ _ h => h) (by rfl) ?_ (by assumption) ?_
                rotate_left
                · (intro w hSw; obtain ⟨_, q0, q1, q2⟩ := hSw; go_simp; (try rw [if_neg (by omega)]); try with_reducible rfl)
                try simp only [Act.put, List.setIfInBounds_toArray, List.set_cons_zero, List.set_cons_succ]
                refine takeW (i := 19) (d := some 45) (v := ?_) rfl rfl (by kernel_rfl) (by kernel_rfl) (by kernel_rfl) (fun _ _ _ h => h) (by rfl) ?_ (by assumption) ?_
                rotate_left
                · (intro w hSw; obtain ⟨_, q0, q1, q2⟩ := hSw; go_simp; (try rw [if_neg (by omega)]); try with_reducible rfl)
                try simp only [Act.put, List.setIfInBounds_toArray, List.set_cons_zero, List.set_cons_succ]
                refine takeW (i := 20) (d := some 5) (v := ?_) rfl rfl (by kernel_rfl) (by kernel_rfl) (by kernel_rfl) (fun _ _ _ h => h) (by rfl) ?_ (by assumption) ?_
                rotate_left
                · (intro w hSw; obtain ⟨_, q0, q1, q2⟩ := hSw; go_simp; (try rw [if_neg (by omega)]); try with_reducible rfl)
                try simp only [Act.put, List.setIfInBounds_toArray, List.set_cons_zero, List.set_cons_succ]
                refine wpAnyH_done (by kernel_rfl) ?_ _
                go_wp2_with fail
                go_roundw
                case rel => exact ⟨k + 1, by go_num, by omega, congrArg Value.string HE.out, S.out.1⟩
                case measure => show ts.length - ((k : Int) + 1).toNat < ts.length - (k : Int).toNat; omega
        · go_simp
          have CB := Lib.hid (newline_new w4)
          have S := Lib.hid (S.out.alloc (.cells #[.int .u8 10] 5))
          refine hK.out _ _ ?_ (fun hHeld => ?_)
          · exact S.out
          clear hK K
          try simp only [Act.put, List.setIfInBounds_toArray, List.set_cons_zero, List.set_cons_succ]
          generalize w4.alloc (.cells #[.int .u8 10] 5) = w4 at *
          refine wpAnyH_ready (rs := [9, 18]) (by kernel_rfl) (by simp) ?_
          refine AllReadyH.cons rfl (fun K hK => ?_) (AllReadyH.cons rfl (fun K hK => ?_) (AllReadyH.nil))
          · go_simp
            refine (Df.out _).mono ?_
            rintro e w4 ⟨rfl, b1⟩
            have S := Lib.hid (S.out.below b1)
            have CB := Lib.hid (below_cell_of b1 CB.out)
            clear b1
            refine hK.out _ _ ?_ (fun hHeld => ?_)
            · exact S.out
            clear hK K
            try simp only [Act.put, List.setIfInBounds_toArray, List.set_cons_zero, List.set_cons_succ]
            refine takeW (i := 10) (d := some 36) (v := ?_) rfl rfl (by kernel_rfl) (by kernel_rfl) (by kernel_rfl) (fun _ _ _ h => h) (by rfl) ?_ (by assumption) ?_
            rotate_left
            · (intro w hSw; obtain ⟨_, q0, q1, q2⟩ := hSw; go_simp; (try rw [if_neg (by omega)]); try with_reducible rfl)
            try simp only [Act.put, List.setIfInBounds_toArray, List.set_cons_zero, List.set_cons_succ]
            refine takeW (i := 11) (d := some 37) (v := ?_) rfl rfl (by kernel_rfl) (by kernel_rfl) (by kernel_rfl) (fun _ _ _ h => h) (by rfl) ?_ (by assumption) ?_
            rotate_left
            · (intro w hSw; obtain ⟨_, q0, q1, q2⟩ := hSw; go_simp; (try rw [if_neg (by omega)]); try with_reducible rfl)
            try simp only [Act.put, List.setIfInBounds_toArray, List.set_cons_zero, List.set_cons_succ]
            refine wpAnyH_ready (rs := [14, 18]) (by kernel_rfl) (by simp) ?_
            refine AllReadyH.cons rfl (fun K hK => ?_) (AllReadyH.cons rfl (fun K hK => ?_) (AllReadyH.nil))
            · go_simp
              refine (Dl.out _).mono ?_
              rintro e w4 ⟨rfl, b1⟩
              have S := Lib.hid (S.out.below b1)
              have CB := Lib.hid (below_cell_of b1 CB.out)
              clear b1
              refine hK.out _ _ ?_ (fun hHeld => ?_)
              · exact S.out
              clear hK K
              try simp only [Act.put, List.setIfInBounds_toArray, List.set_cons_zero, List.set_cons_succ]
              refine takeW (i := 15) (d := some 41) (v := ?_) rfl rfl (by kernel_rfl) (by kernel_rfl) (by kernel_rfl) (fun _ _ _ h => h) (by rfl) ?_ (by assumption) ?_
              rotate_left
              · (intro w hSw; obtain ⟨_, q0, q1, q2⟩ := hSw; go_simp; (try rw [if_neg (by omega)]); try with_reducible rfl)
              try simp only [Act.put, List.setIfInBounds_toArray, List.set_cons_zero, List.set_cons_succ]
              refine takeW (i := 16) (d := some 42) (v := ?_) rfl rfl (by kernel_rfl) (by kernel_rfl) (by kernel_rfl) (fun _ _ _ h => h) (by rfl) ?_ (by assumption) ?_
              rotate_left
              · (intro w hSw; obtain ⟨_, q0, q1, q2⟩ := hSw; go_simp; (try rw [if_neg (by omega)]); try with_reducible rfl)
              try simp only [Act.put, List.setIfInBounds_toArray, List.set_cons_zero, List.set_cons_succ]
              refine wpAnyH_ready (rs := [18]) (by kernel_rfl) (by simp) ?_
              refine AllReadyH.cons rfl (fun K hK => ?_) (AllReadyH.nil)
              · go_simp
                rw [newline_conv CB.out]
                go_simp
                refine hK.out _ _ ?_ (fun hHeld => ?_)
                · exact S.out
                clear hK K
                try simp only [Act.put, List.setIfInBounds_toArray, List.set_cons_zero, List.set_cons_succ]
                refine takeW (i := 19) (d := some 45) (v := ?_) rfl rfl (by kernel_rfl) (by kernel_rfl) (by kernel_rfl) (fun _ _ _ h => h) (by rfl) ?_ (by assumption) ?_
                rotate_left
                · (intro w hSw; obtain ⟨_, q0, q1, q2⟩ := hSw; go_simp; (try rw [if_neg (by omega)]); try with_reducible rfl)
                try simp only [Act.put, List.setIfInBounds_toArray, List.set_cons_zero, List.set_cons_succ]
                refine takeW (i := 20) (d := some 5) (v := ?_) rfl rfl (by kernel_rfl) (by kernel_rfl) (by kernel_rfl) (fun _ _ _ h => h) (by rfl) ?_ (by assumption) ?_
                rotate_left
                · (intro w hSw; obtain ⟨_, q0, q1, q2⟩ := hSw; go_simp; (try rw [if_neg (by omega)]); try with_reducible rfl)
                try simp only [Act.put, List.setIfInBounds_toArray, List.set_cons_zero, List.set_cons_succ]
                refine wpAnyH_done (by kernel_rfl) ?_ _
                go_wp2_with fail
                go_roundw
                case rel => exact ⟨k + 1, by go_num, by omega, congrArg Value.string HE.out, S.out.1⟩
                case measure => show ts.length - ((k : Int) + 1).toNat < ts.length - (k : Int).toNat; omega
            · go_simp
              rw [newline_conv CB.out]
              go_simp
              refine hK.out _ _ ?_ (fun hHeld => ?_)
              · exact S.out
              clear hK K
              try simp only [Act.put, List.setIfInBounds_toArray, List.set_cons_zero, List.set_cons_succ]
              refine wpAnyH_ready (rs := [14]) (by kernel_rfl) (by simp) ?_
              refine AllReadyH.cons rfl (fun K hK => ?_) (AllReadyH.nil)
              · go_simp
                refine (Dl.out _).mono ?_
                rintro e w4 ⟨rfl, b1⟩
                have S := Lib.hid (S.out.below b1)
                clear b1
                refine hK.out _ _ ?_ (fun hHeld => ?_)
                · exact S.out
                clear hK K
                try simp only [Act.put, List.setIfInBounds_toArray, List.set_cons_zero, List.set_cons_succ]
                refine takeW (i := 15) (d := some 41) (v := ?_) rfl rfl (by kernel_rfl) (by kernel_rfl) (by kernel_rfl) (fun _ _ _ h => h) (by rfl) ?_ (by assumption) ?_
                rotate_left
                · (intro w hSw; obtain ⟨_, q0, q1, q2⟩ := hSw; go_simp; (try rw [if_neg (by omega)]); try with_reducible rfl)
                try simp only [Act.put, List.setIfInBounds_toArray, List.set_cons_zero, List.set_cons_succ]
                refine takeW (i := 16) (d := some 42) (v := ?_) rfl rfl (by kernel_rfl) (by kernel_rfl) (by kernel_rfl) (fun _ _ _ h => h) (by rfl) ?_ (by assumption) ?_
                rotate_left
                · (intro w hSw; obtain ⟨_, q0, q1, q2⟩ := hSw; go_simp; (try rw [if_neg (by omega)]); try with_reducible rfl)
                try simp only [Act.put, List.setIfInBounds_toArray, List.set_cons_zero, List.set_cons_succ]
                refine takeW (i := 19) (d := some 45) (v := ?_) rfl rfl (by kernel_rfl) (by kernel_rfl) (by kernel_rfl) (fun _ _ _ h => h) (by rfl) ?_ (by assumption) ?_
                rotate_left
                · (intro w hSw; obtain ⟨_, q0, q1, q2⟩ := hSw; go_simp; (try rw [if_neg (by omega)]); try with_reducible rfl)
                try simp only [Act.put, List.setIfInBounds_toArray, List.set_cons_zero, List.set_cons_succ]
                refine takeW (i := 20) (d := some 5) (v := ?_) rfl rfl (by kernel_rfl) (by kernel_rfl) (by kernel_rfl) (fun _ _ _ h => h) (by rfl) ?_ (by assumption) ?_
                rotate_left
                · (intro w hSw; obtain ⟨_, q0, q1, q2⟩ := hSw; go_simp; (try rw [if_neg (by omega)]); try with_reducible rfl)
                try simp only [Act.put, List.setIfInBounds_toArray, List.set_cons_zero, List.set_cons_succ]
                refine wpAnyH_done (by kernel_rfl) ?_ _
                go_wp2_with fail
                go_roundw
                case rel => exact ⟨k + 1, by go_num, by omega, congrArg Value.string HE.out, S.out.1⟩
                case measure => show ts.length - ((k : Int) + 1).toNat < ts.length - (k : Int).toNat; omega
          · go_simp
            rw [newline_conv CB.out]
            go_simp
            refine hK.out _ _ ?_ (fun hHeld => ?_)
            · exact S.out
            clear hK K
            try simp only [Act.put, List.setIfInBounds_toArray, List.set_cons_zero, List.set_cons_succ]
            refine wpAnyH_ready (rs := [9]) (by kernel_rfl) (by simp) ?_
            refine AllReadyH.cons rfl (fun K hK => ?_) (AllReadyH.nil)
            · go_simp
              refine (Df.out _).mono ?_
              rintro e w4 ⟨rfl, b1⟩
              have S := Lib.hid (S.out.below b1)
              clear b1
              refine hK.out _ _ ?_ (fun hHeld => ?_)
              · exact S.out
              clear hK K
              try simp only [Act.put, List.setIfInBounds_toArray, List.set_cons_zero, List.set_cons_succ]
              refine takeW (i := 10) (d := some 36) (v := ?_) rfl rfl (by kernel_rfl) (by kernel_rfl) (by kernel_rfl) (fun _ _ _ h => h) (by rfl) ?_ (by assumption) ?_
              rotate_left
              · (intro w hSw; obtain ⟨_, q0, q1, q2⟩ := hSw; go_simp; (try rw [if_neg (by omega)]); try with_reducible rfl)
              try simp only [Act.put, List.setIfInBounds_toArray, List.set_cons_zero, List.set_cons_succ]
              refine takeW (i := 11) (d := some 37) (v := ?_) rfl rfl (by kernel_rfl) (by kernel_rfl) (by kernel_rfl) (fun _ _ _ h => h) (by rfl) ?_ (by assumption) ?_
              rotate_left
              · (intro w hSw; obtain ⟨_, q0, q1, q2⟩ := hSw; go_simp; (try rw [if_neg (by omega)]); try with_reducible rfl)
              try simp only [Act.put, List.setIfInBounds_toArray, List.set_cons_zero, List.set_cons_succ]
              refine wpAnyH_ready (rs := [14]) (by kernel_rfl) (by simp) ?_
              refine AllReadyH.cons rfl (fun K hK => ?_) (AllReadyH.nil)
              · go_simp
                refine (Dl.out _).mono ?_
                rintro e w4 ⟨rfl, b1⟩
                have S := Lib.hid (S.out.below b1)
                clear b1
                refine hK.out _ _ ?_ (fun hHeld => ?_)
                · exact S.out
                clear hK K
                try simp only [Act.put, List.setIfInBounds_toArray, List.set_cons_zero, List.set_cons_succ]
                refine takeW (i := 15) (d := some 41) (v := ?_) rfl rfl (by kernel_rfl) (by kernel_rfl) (by kernel_rfl) (fun _ _ _ h => h) (by rfl) ?_ (by assumption) ?_
                rotate_left
                · (intro w hSw; obtain ⟨_, q0, q1, q2⟩ := hSw; go_simp; (try rw [if_neg (by omega)]); try with_reducible rfl)
                try simp only [Act.put, List.setIfInBounds_toArray, List.set_cons_zero, List.set_cons_succ]
                refine takeW (i := 16) (d := some 42) (v := ?_) rfl rfl (by kernel_rfl) (by kernel_rfl) (by kernel_rfl) (fun _ _ _ h => h) (by rfl) ?_ (by assumption) ?_
                rotate_left
                · (intro w hSw; obtain ⟨_, q0, q1, q2⟩ := hSw; go_simp; (try rw [if_neg (by omega)]); try with_reducible rfl)
                try simp only [Act.put, List.setIfInBounds_toArray, List.set_cons_zero, List.set_cons_succ]
                refine takeW (i := 19) (d := some 45) (v := ?_) rfl rfl (by kernel_rfl) (by kernel_rfl) (by kernel_rfl) (fun _ _ _ h => h) (by rfl) ?_ (by assumption) ?_
                rotate_left
                · (intro w hSw; obtain ⟨_, q0, q1, q2⟩ := hSw; go_simp; (try rw [if_neg (by omega)]); try with_reducible rfl)
                try simp only [Act.put, List.setIfInBounds_toArray, List.set_cons_zero, List.set_cons_succ]
                refine takeW (i := 20) (d := some 5) (v := ?_) rfl rfl (by kernel_rfl) (by kernel_rfl) (by kernel_rfl) (fun _ _ _ h => h) (by rfl) ?_ (by assumption) ?_
                rotate_left
                · (intro w hSw; obtain ⟨_, q0, q1, q2⟩ := hSw; go_simp; (try rw [if_neg (by omega)]); try with_reducible rfl)
                try simp only [Act.put, List.setIfInBounds_toArray, List.set_cons_zero, List.set_cons_succ]
                refine wpAnyH_done (by kernel_rfl) ?_ _
                go_wp2_with fail
                go_roundw
                case rel => exact ⟨k + 1, by go_num, by omega, congrArg Value.string HE.out, S.out.1⟩
                case measure => show ts.length - ((k : Int) + 1).toNat < ts.length - (k : Int).toNat; omega
      · go_simp
        have CB := Lib.hid (newline_new w4)
        have S := Lib.hid (S.out.alloc (.cells #[.int .u8 10] 5))
        refine hK.out _ _ ?_ (fun hHeld => ?_)
        · exact S.out
        clear hK K
        try simp only [Act.put, List.setIfInBounds_toArray, List.set_cons_zero, List.set_cons_succ]
        generalize w4.alloc (.cells #[.int .u8 10] 5) = w4 at *
        refine wpAnyH_ready (rs := [4, 18]) (by kernel_rfl) (by simp) ?_
        refine AllReadyH.cons rfl (fun K hK => ?_) (AllReadyH.cons rfl (fun K hK => ?_) (AllReadyH.nil))
        · go_simp
          refine (Dp.out _).mono ?_
          rintro e w4 ⟨rfl, b1⟩
          have S := Lib.hid (S.out.below b1)
          have CB := Lib.hid (below_cell_of b1 CB.out)
          clear b1
          refine hK.out _ _ ?_ (fun hHeld => ?_)
          · exact S.out
          clear hK K
          try simp only [Act.put, List.setIfInBounds_toArray, List.set_cons_zero, List.set_cons_succ]
          refine takeW (i := 5) (d := some 31) (v := ?_) rfl rfl (by kernel_rfl) (by kernel_rfl) (by kernel_rfl) (fun _ _ _ h => h) (by rfl) ?_ (by assumption) ?_
          rotate_left
          · (intro w hSw; obtain ⟨_, q0, q1, q2⟩ := hSw; go_simp; (try rw [if_neg (by omega)]); try with_reducible rfl)
          try simp only [Act.put, List.setIfInBounds_toArray, List.set_cons_zero, List.set_cons_succ]
          refine takeW (i := 6) (d := some 32) (v := ?_) rfl rfl (by kernel_rfl) (by kernel_rfl) (by kernel_rfl) (fun _ _ _ h => h) (by rfl) ?_ (by assumption) ?_
          rotate_left
          · (intro w hSw; obtain ⟨_, q0, q1, q2⟩ := hSw; go_simp; (try rw [if_neg (by omega)]); try with_reducible rfl)
          try simp only [Act.put, List.setIfInBounds_toArray, List.set_cons_zero, List.set_cons_succ]
          refine wpAnyH_ready (rs := [9, 18]) (by kernel_rfl) (by simp) ?_
          refine AllReadyH.cons rfl (fun K hK => ?_) (AllReadyH.cons rfl (fun K hK => ?_) (AllReadyH.nil))
          · go_simp
            refine (Df.out _).mono ?_
            rintro e w4 ⟨rfl, b1⟩
            have S := Lib.hid (S.out.below b1)
            have CB := Lib.hid (below_cell_of b1 CB.out)
            clear b1
            refine hK.out _ _ ?_ (fun hHeld => ?_)
            · exact S.out
            clear hK K
            try simp only [Act.put, List.setIfInBounds_toArray, List.set_cons_zero, List.set_cons_succ]
            refine takeW (i := 10) (d := some 36) (v := ?_) rfl rfl (by kernel_rfl) (by kernel_rfl) (by kernel_rfl) (fun _ _ _ h => h) (by rfl) ?_ (by assumption) ?_
            rotate_left
            · (intro w hSw; obtain ⟨_, q0, q1, q2⟩ := hSw; go_simp; (try rw [if_neg (by omega)]); try with_reducible rfl)
            try simp only [Act.put, List.setIfInBounds_toArray, List.set_cons_zero, List.set_cons_succ]
            refine takeW (i := 11) (d := some 37) (v := ?_) rfl rfl (by kernel_rfl) (by kernel_rfl) (by kernel_rfl) (fun _ _ _ h => h) (by rfl) ?_ (by assumption) ?_
            rotate_left
            · (intro w hSw; obtain ⟨_, q0, q1, q2⟩ := hSw; go_simp; (try rw [if_neg (by omega)]); try with_reducible rfl)
            try simp only [Act.put, List.setIfInBounds_toArray, List.set_cons_zero, List.set_cons_succ]
            refine wpAnyH_ready (rs := [14, 18]) (by kernel_rfl) (by simp) ?_
            refine AllReadyH.cons rfl (fun K hK => ?_) (AllReadyH.cons rfl (fun K hK => ?_) (AllReadyH.nil))
            · go_simp
              refine (Dl.out _).mono ?_
              rintro e w4 ⟨rfl, b1⟩
              have S := Lib.hid (S.out.below b1)
              have CB := Lib.hid (below_cell_of b1 CB.out)
              clear b1
              refine hK.out _ _ ?_ (fun hHeld => ?_)
              · exact S.out
              clear hK K
              try simp only [Act.put, List.setIfInBounds_toArray, List.set_cons_zero, List.set_cons_succ]
              refine takeW (i := 15) (d := some 41) (v := ?_) rfl rfl (by kernel_rfl) (by kernel_rfl) (by kernel_rfl) (fun _ _ _ h => h) (by rfl) ?_ (by assumption) ?_
              rotate_left
              · (intro w hSw; obtain ⟨_, q0, q1, q2⟩ := hSw; go_simp; (try rw [if_neg (by omega)]); try with_reducible rfl)
              try simp only [Act.put, List.setIfInBounds_toArray, List.set_cons_zero, List.set_cons_succ]
              refine takeW (i := 16) (d := some 42) (v := ?_) rfl rfl (by kernel_rfl) (by kernel_rfl) (by kernel_rfl) (fun _ _ _ h => h) (by rfl) ?_ (by assumption) ?_
              rotate_left
              · (intro w hSw; obtain ⟨_, q0, q1, q2⟩ := hSw; go_simp; (try rw [if_neg (by omega)]); try with_reducible rfl)
              try simp only [Act.put, List.setIfInBounds_toArray, List.set_cons_zero, List.set_cons_succ]
              refine wpAnyH_ready (rs := [18]) (by kernel_rfl) (by simp) ?_
              refine AllReadyH.cons rfl (fun K hK => ?_) (AllReadyH.nil)
              · go_simp
                rw [newline_conv CB.out]
                go_simp
                refine hK.out _ _ ?_ (fun hHeld => ?_)
                · exact S.out
                clear hK K
                try simp only [Act.put, List.setIfInBounds_toArray, List.set_cons_zero, List.set_cons_succ]
                refine takeW (i := 19) (d := some 45) (v := ?_) rfl rfl (by kernel_rfl) (by kernel_rfl) (by kernel_rfl) (fun _ _ _ h => h) (by rfl) ?_ (by assumption) ?_
                rotate_left
                · (intro w hSw; obtain ⟨_, q0, q1, q2⟩ := hSw; go_simp; (try rw [if_neg (by omega)]); try with_reducible rfl)
                try simp only [Act.put, List.setIfInBounds_toArray, List.set_cons_zero, List.set_cons_succ]
                refine takeW (i := 20) (d := some 5) (v := ?_) rfl rfl (by kernel_rfl) (by kernel_rfl) (by kernel_rfl) (fun _ _ _ h => h) (by rfl) ?_ (by assumption) ?_
                rotate_left
                · (intro w hSw; obtain ⟨_, q0, q1, q2⟩ := hSw; go_simp; (try rw [if_neg (by omega)]); try with_reducible rfl)
                try simp only [Act.put, List.setIfInBounds_toArray, List.set_cons_zero, List.set_cons_succ]
                refine wpAnyH_done (by kernel_rfl) ?_ _
                go_wp2_with fail
                go_roundw
                case rel => exact ⟨k + 1, by go_num, by omega, congrArg Value.string HE.out, S.out.1⟩
                case measure => show ts.length - ((k : Int) + 1).toNat < ts.length - (k : Int).toNat; omega
            · go_simp
              rw [newline_conv CB.out]
              go_simp
              refine hK.out _ _ ?_ (fun hHeld => ?_)
              · exact S.out
              clear hK K
              try simp only [Act.put, List.setIfInBounds_toArray, List.set_cons_zero, List.set_cons_succ]
              refine wpAnyH_ready (rs := [14]) (by kernel_rfl) (by simp) ?_
              refine AllReadyH.cons rfl (fun K hK => ?_) (AllReadyH.nil)
              · go_simp
                refine (Dl.out _).mono ?_
                rintro e w4 ⟨rfl, b1⟩
                have S := Lib.hid (S.out.below b1)
                clear b1
                refine hK.out _ _ ?_ (fun hHeld => ?_)
                · exact S.out
                clear hK K
                try simp only [Act.put, List.setIfInBounds_toArray, List.set_cons_zero, List.set_cons_succ]
                refine takeW (i := 15) (d := some 41) (v := ?_) rfl rfl (by kernel_rfl) (by kernel_rfl) (by kernel_rfl) (fun _ _ _ h => h) (by rfl) ?_ (by assumption) ?_
                rotate_left
                · (intro w hSw; obtain ⟨_, q0, q1, q2⟩ := hSw; go_simp; (try rw [if_neg (by omega)]); try with_reducible rfl)
                try simp only [Act.put, List.setIfInBounds_toArray, List.set_cons_zero, List.set_cons_succ]
                refine takeW (i := 16) (d := some 42) (v := ?_) rfl rfl (by kernel_rfl) (by kernel_rfl) (by kernel_rfl) (fun _ _ _ h => h) (by rfl) ?_ (by assumption) ?_
                rotate_left
                · (intro w hSw; obtain ⟨_, q0, q1, q2⟩ := hSw; go_simp; (try rw [if_neg (by omega)]); try with_reducible rfl)
                try simp only [Act.put, List.setIfInBounds_toArray, List.set_cons_zero, List.set_cons_succ]
                refine takeW (i := 19) (d := some 45) (v := ?_) rfl rfl (by kernel_rfl) (by kernel_rfl) (by kernel_rfl) (fun _ _ _ h => h) (by rfl) ?_ (by assumption) ?_
                rotate_left
                · (intro w hSw; obtain ⟨_, q0, q1, q2⟩ := hSw; go_simp; (try rw [if_neg (by omega)]); try with_reducible rfl)
                try simp only [Act.put, List.setIfInBounds_toArray, List.set_cons_zero, List.set_cons_succ]
                refine takeW (i := 20) (d := some 5) (v := ?_) rfl rfl (by kernel_rfl) (by kernel_rfl) (by kernel_rfl) (fun _ _ _ h => h) (by rfl) ?_ (by assumption) ?_
                rotate_left
                · (intro w hSw; obtain ⟨_, q0, q1, q2⟩ := hSw; go_simp; (try rw [if_neg (by omega)]); try with_reducible rfl)
                try simp only [Act.put, List.setIfInBounds_toArray, List.set_cons_zero, List.set_cons_succ]
                refine wpAnyH_done (by kernel_rfl) ?_ _
                go_wp2_with fail
                go_roundw
                case rel => exact ⟨k + 1, by go_num, by omega, congrArg Value.string HE.out, S.out.1⟩
                case measure => show ts.length - ((k : Int) + 1).toNat < ts.length - (k : Int).toNat; omega
          · go_simp
            rw [newline_conv CB.out]
            go_simp
            refine hK.out _ _ ?_ (fun hHeld => ?_)
            · exact S.out
            clear hK K
            try simp only [Act.put, List.setIfInBounds_toArray, List.set_cons_zero, List.set_cons_succ]
            refine wpAnyH_ready (rs := [9]) (by kernel_rfl) (by simp) ?_
            refine AllReadyH.cons rfl (fun K hK => ?_) (AllReadyH.nil)
            · go_simp
              refine (Df.out _).mono ?_
              rintro e w4 ⟨rfl, b1⟩
              have S := Lib.hid (S.out.below b1)
              clear b1
              refine hK.out _ _ ?_ (fun hHeld => ?_)
              · exact S.out
              clear hK K
              try simp only [Act.put, List.setIfInBounds_toArray, List.set_cons_zero, List.set_cons_succ]
              refine takeW (i := 10) (d := some 36) (v := ?_) rfl rfl (by kernel_rfl) (by kernel_rfl) (by kernel_rfl) (fun _ _ _ h => h) (by rfl) ?_ (by assumption) ?_
              rotate_left
              · (intro w hSw; obtain ⟨_, q0, q1, q2⟩ := hSw; go_simp; (try rw [if_neg (by omega)]); try with_reducible rfl)
              try simp only [Act.put, List.setIfInBounds_toArray, List.set_cons_zero, List.set_cons_succ]
              refine takeW (i := 11) (d := some 37) (v := ?_) rfl rfl (by kernel_rfl) (by kernel_rfl) (by kernel_rfl) (fun _ _ _ h => h) (by rfl) ?_ (by assumption) ?_
              rotate_left
              · (intro w hSw; obtain ⟨_, q0, q1, q2⟩ := hSw; go_simp; (try rw [if_neg (by omega)]); try with_reducible rfl)
              try simp only [Act.put, List.setIfInBounds_toArray, List.set_cons_zero, List.set_cons_succ]
              refine wpAnyH_ready (rs := [14]) (by kernel_rfl) (by simp) ?_
              refine AllReadyH.cons rfl (fun K hK => ?_) (AllReadyH.nil)
              · go_simp
                refine (Dl.out _).mono ?_
                rintro e w4 ⟨rfl, b1⟩
                have S := Lib.hid (S.out.below b1)
                clear b1
                refine hK.out _ _ ?_ (fun hHeld => ?_)
                · exact S.out
                clear hK K
                try simp only [Act.put, List.setIfInBounds_toArray, List.set_cons_zero, List.set_cons_succ]
                refine takeW (i := 15) (d := some 41) (v := ?_) rfl rfl (by kernel_rfl) (by kernel_rfl) (by kernel_rfl) (fun _ _ _ h => h) (by rfl) ?_ (by assumption) ?_
                rotate_left
                · (intro w hSw; obtain ⟨_, q0, q1, q2⟩ := hSw; go_simp; (try rw [if_neg (by omega)]); try with_reducible rfl)
                try simp only [Act.put, List.setIfInBounds_toArray, List.set_cons_zero, List.set_cons_succ]
                refine takeW (i := 16) (d := some 42) (v := ?_) rfl rfl (by kernel_rfl) (by kernel_rfl) (by kernel_rfl) (fun _ _ _ h => h) (by rfl) ?_ (by assumption) ?_
                rotate_left
                · (intro w hSw; obtain ⟨_, q0, q1, q2⟩ := hSw; go_simp; (try rw [if_neg (by omega)]); try with_reducible rfl)
                try simp only [Act.put, List.setIfInBounds_toArray, List.set_cons_zero, List.set_cons_succ]
                refine takeW (i := 19) (d := some 45) (v := ?_) rfl rfl (by kernel_rfl) (by kernel_rfl) (by kernel_rfl) (fun _ _ _ h => h) (by rfl) ?_ (by assumption) ?_
                rotate_left
                · (intro w hSw; obtain ⟨_, q0, q1, q2⟩ := hSw; go_simp; (try rw [if_neg (by omega)]); try with_reducible rfl)
                try simp only [Act.put, List.setIfInBounds_toArray, List.set_cons_zero, List.set_cons_succ]
                refine takeW (i := 20) (d := some 5) (v := ?_) rfl rfl (by kernel_rfl) (by kernel_rfl) (by kernel_rfl) (fun _ _ _ h => h) (by rfl) ?_ (by assumption) ?_
                rotate_left
                · (intro w hSw; obtain ⟨_, q0, q1, q2⟩ := hSw; go_simp; (try rw [if_neg (by omega)]); try with_reducible rfl)
                try simp only [Act.put, List.setIfInBounds_toArray, List.set_cons_zero, List.set_cons_succ]
                refine wpAnyH_done (by kernel_rfl) ?_ _
                go_wp2_with fail
                go_roundw
                case rel => exact ⟨k + 1, by go_num, by omega, congrArg Value.string HE.out, S.out.1⟩
                case measure => show ts.length - ((k : Int) + 1).toNat < ts.length - (k : Int).toNat; omega
        · go_simp
          rw [newline_conv CB.out]
          go_simp
          refine hK.out _ _ ?_ (fun hHeld => ?_)
          · exact S.out
          clear hK K
          try simp only [Act.put, List.setIfInBounds_toArray, List.set_cons_zero, List.set_cons_succ]
          refine wpAnyH_ready (rs := [4]) (by kernel_rfl) (by simp) ?_
          refine AllReadyH.cons rfl (fun K hK => ?_) (AllReadyH.nil)
          · go_simp
            refine (Dp.out _).mono ?_
            rintro e w4 ⟨rfl, b1⟩
            have S := Lib.hid (S.out.below b1)
            clear b1
            refine hK.out _ _ ?_ (fun hHeld => ?_)
            · exact S.out
            clear hK K
            try simp only [Act.put, List.setIfInBounds_toArray, List.set_cons_zero, List.set_cons_succ]
            refine takeW (i := 5) (d := some 31) (v := ?_) rfl rfl (by kernel_rfl) (by kernel_rfl) (by kernel_rfl) (fun _ _ _ h => h) (by rfl) ?_ (by assumption) ?_
            rotate_left
            · (intro w hSw; obtain ⟨_, q0, q1, q2⟩ := hSw; go_simp; (try rw [if_neg (by omega)]); try with_reducible rfl)
            try simp only [Act.put, List.setIfInBounds_toArray, List.set_cons_zero, List.set_cons_succ]
            refine takeW (i := 6) (d := some 32) (v := ?_) rfl rfl (by kernel_rfl) (by kernel_rfl) (by kernel_rfl) (fun _ _ _ h => h) (by rfl) ?_ (by assumption) ?_
            rotate_left
            · (intro w hSw; obtain ⟨_, q0, q1, q2⟩ := hSw; go_simp; (try rw [if_neg (by omega)]); try with_reducible rfl)
            try simp only [Act.put, List.setIfInBounds_toArray, List.set_cons_zero, List.set_cons_succ]
            refine wpAnyH_ready (rs := [9]) (by kernel_rfl) (by simp) ?_
            refine AllReadyH.cons rfl (fun K hK => ?_) (AllReadyH.nil)
            · go_simp
              refine (Df.out _).mono ?_
              rintro e w4 ⟨rfl, b1⟩
              have S := Lib.hid (S.out.below b1)
              clear b1
              refine hK.out _ _ ?_ (fun hHeld => ?_)
              · exact S.out
              clear hK K
              try simp only [Act.put, List.setIfInBounds_toArray, List.set_cons_zero, List.set_cons_succ]
              refine takeW (i := 10) (d := some 36) (v := ?_) rfl rfl (by kernel_rfl) (by kernel_rfl) (by kernel_rfl) (fun _ _ _ h => h) (by rfl) ?_ (by assumption) ?_
              rotate_left
              · (intro w hSw; obtain ⟨_, q0, q1, q2⟩ := hSw; go_simp; (try rw [if_neg (by omega)]); try with_reducible rfl)
              try simp only [Act.put, List.setIfInBounds_toArray, List.set_cons_zero, List.set_cons_succ]
              refine takeW (i := 11) (d := some 37) (v := ?_) rfl rfl (by kernel_rfl) (by kernel_rfl) (by kernel_rfl) (fun _ _ _ h => h) (by rfl) ?_ (by assumption) ?_
              rotate_left
              · (intro w hSw; obtain ⟨_, q0, q1, q2⟩ := hSw; go_simp; (try rw [if_neg (by omega)]); try with_reducible rfl)
              try simp only [Act.put, List.setIfInBounds_toArray, List.set_cons_zero, List.set_cons_succ]
              refine wpAnyH_ready (rs := [14]) (by kernel_rfl) (by simp) ?_
              refine AllReadyH.cons rfl (fun K hK => ?_) (AllReadyH.nil)
              · go_simp
                refine (Dl.out _).mono ?_
                rintro e w4 ⟨rfl, b1⟩
                have S := Lib.hid (S.out.below b1)
                clear b1
                refine hK.out _ _ ?_ (fun hHeld => ?_)
                · exact S.out
                clear hK K
                try simp only [Act.put, List.setIfInBounds_toArray, List.set_cons_zero, List.set_cons_succ]
                refine takeW (i := 15) (d := some 41) (v := ?_) rfl rfl (by kernel_rfl) (by kernel_rfl) (by kernel_rfl) (fun _ _ _ h => h) (by rfl) ?_ (by assumption) ?_
                rotate_left
                · (intro w hSw; obtain ⟨_, q0, q1, q2⟩ := hSw; go_simp; (try rw [if_neg (by omega)]); try with_reducible rfl)
                try simp only [Act.put, List.setIfInBounds_toArray, List.set_cons_zero, List.set_cons_succ]
                refine takeW (i := 16) (d := some 42) (v := ?_) rfl rfl (by kernel_rfl) (by kernel_rfl) (by kernel_rfl) (fun _ _ _ h => h) (by rfl) ?_ (by assumption) ?_
                rotate_left
                · (intro w hSw; obtain ⟨_, q0, q1, q2⟩ := hSw; go_simp; (try rw [if_neg (by omega)]); try with_reducible rfl)
                try simp only [Act.put, List.setIfInBounds_toArray, List.set_cons_zero, List.set_cons_succ]
                refine takeW (i := 19) (d := some 45) (v := ?_) rfl rfl (by kernel_rfl) (by kernel_rfl) (by kernel_rfl) (fun _ _ _ h => h) (by rfl) ?_ (by assumption) ?_
                rotate_left
                · (intro w hSw; obtain ⟨_, q0, q1, q2⟩ := hSw; go_simp; (try rw [if_neg (by omega)]); try with_reducible rfl)
                try simp only [Act.put, List.setIfInBounds_toArray, List.set_cons_zero, List.set_cons_succ]
                refine takeW (i := 20) (d := some 5) (v := ?_) rfl rfl (by kernel_rfl) (by kernel_rfl) (by kernel_rfl) (fun _ _ _ h => h) (by rfl) ?_ (by assumption) ?_
                rotate_left
                · (intro w hSw; obtain ⟨_, q0, q1, q2⟩ := hSw; go_simp; (try rw [if_neg (by omega)]); try with_reducible rfl)
                try simp only [Act.put, List.setIfInBounds_toArray, List.set_cons_zero, List.set_cons_succ]
                refine wpAnyH_done (by kernel_rfl) ?_ _
                go_wp2_with fail
                go_roundw
                case rel => exact ⟨k + 1, by go_num, by omega, congrArg Value.string HE.out, S.out.1⟩
                case measure => show ts.length - ((k : Int) + 1).toNat < ts.length - (k : Int).toNat; omega
    · have hke : k = ts.length := by omega
      subst hke
      rw [List.take_length]
      obtain ⟨o, ho⟩ : ∃ o : ByteArray, (⟨(textTs ts).toArray⟩ : ByteArray) = o := ⟨_, rfl⟩
      have HO1 := Lib.hid ho
      rw [ho]
      clear ho
      have hk0 : (ts.length : Int) ≤ (ts.length : Int) := Int.le_refl _
      go_wp2_with fail
      go_loopw [5, 8] (fun q u wr => ∃ k : Nat, u = .int .i64 k ∧ k ≤ ss.length ∧ q = .string ⟨(textTs ts ++ textSs (ss.take k)).toArray⟩ ∧ NSd w (.slice A ts.length ca) (.slice A' ss.length ca') wr) (fun _ u _ => ss.length - (intOf u).toNat)
      case atStart => exact ⟨0, rfl, by omega, by rw [← HO1.out]; simp [textSs], S.out⟩
      case round =>
        obtain ⟨k, rfl, hk, rfl, hS⟩ := hrel
        clear S t0 t1 t2
        have S := Lib.hid hS
        clear hS
        obtain ⟨t0, t1, t2, _⟩ := S.out.out
        by_cases hkn : k < ss.length
        · obtain ⟨b1, o1, rfl, l1, x1⟩ := HY.out (by omega)
          obtain ⟨⟨p, f⟩, ht⟩ : ∃ t, ss[k]? = some t := ⟨_, List.getElem?_eq_getElem hkn⟩
          obtain ⟨a0, a1⟩ := x1 k p f ht
          have c0 := (S.out.bel.cell (p := ⟨b1, o1 + k * 2, none⟩) l1).trans a0
          have c1 := (S.out.bel.cell (p := ⟨b1, o1 + k * 2 + 1, none⟩) l1).trans a1
          have hk1 : (k : Int) < (ss.length : Int) := by omega
          obtain ⟨o, ho⟩ : ∃ o : ByteArray, (⟨(textTs ts ++ textSs (ss.take k)).toArray⟩ : ByteArray) = o := ⟨_, rfl⟩
          have HO := Lib.hid ho
          rw [ho]
          clear x1 a0 a1 ho
          obtain ⟨q1, q2, q3⟩ := HK.out.2 _ (List.mem_of_getElem? ht)
          simp only at q1 q2 q3
          have Dp := Lib.hid fun W => digits_int p W (by omega) (by omega)
          have zp : (⟨(Lib.itoa p).toArray⟩ : ByteArray).size ≤ 7 := by rw [size_of]; have := itoa_len (n := p) (by omega) (by omega); omega
          obtain ⟨dp, hdp⟩ : ∃ q : ByteArray, (⟨(Lib.itoa p).toArray⟩ : ByteArray) = q := ⟨_, rfl⟩
          rw [hdp] at Dp zp
          have Ep := Lib.hid hdp
          clear hdp
          have Df := Lib.hid fun W => digits_int f W (by omega) (by omega)
          have zf : (⟨(Lib.itoa f).toArray⟩ : ByteArray).size ≤ 7 := by rw [size_of]; have := itoa_len (n := f) (by omega) (by omega); omega
          obtain ⟨df, hdf⟩ : ∃ q : ByteArray, (⟨(Lib.itoa f).toArray⟩ : ByteArray) = q := ⟨_, rfl⟩
          rw [hdf] at Df zf
          have Ef := Lib.hid hdf
          clear hdf
          have zo : o.size ≤ 4000 := by rw [← HO.out, size_of, List.length_append]; have h1 := textTs_short ts HK.out.1; have h2 := textSs_short (ss.take k) (fun t h => HK.out.2 t (List.mem_of_mem_take h)); rw [List.length_take] at h2; omega
          have HE : Hid (o ++ ⟨#[98, 101, 116, 119, 101, 101, 110, 32]⟩ ++ dp ++ ⟨#[32, 97, 110, 100, 32]⟩ ++ df ++ ⟨#[59]⟩ ++ ⟨#[10]⟩ = (⟨(textTs ts ++ textSs (ss.take (k + 1))).toArray⟩ : ByteArray)) := Lib.hid (by
            rw [← HO.out, ← Ep.out, ← Ef.out, List.take_add_one, ht]
            show (⟨(textTs ts ++ textSs (ss.take k)).toArray⟩ : ByteArray) ++ ⟨wBetween.toArray⟩ ++ ⟨(Lib.itoa p).toArray⟩ ++ ⟨wAnd.toArray⟩ ++ ⟨(Lib.itoa f).toArray⟩ ++ ⟨([59] : List UInt8).toArray⟩ ++ ⟨([10] : List UInt8).toArray⟩ = _
            simp only [ByteArray.mk_append_mk, Option.toList_some, textSs_snoc, textS, wEnd, List.append_assoc]
            rfl)
          have S' : Hid (PrS w (.slice A ts.length ca) (.slice (some ⟨b1, o1, none⟩) ss.length ca') b1 (o1 + k * 2) p f wr) := Lib.hid ⟨S.out, c0, c1⟩
          go_wp2_with fail
          clear t0 t1 t2 c0 c1 ht
          have S := S'
          clear S'
          have S := Lib.hid S.out.drew
          refine wp_region_held_drew (S := PrS w (.slice A ts.length ca) (.slice (some ⟨b1, o1, none⟩) ss.length ca') b1 (o1 + k * 2) p f) (by kernel_rfl) ?_ (fun hHeld => ?_)
          · exact S.out
          generalize wr.drew = w4 at *
          refine takeW (i := 0) (d := some 53) (v := ?_) rfl rfl (by kernel_rfl) (by kernel_rfl) (by kernel_rfl) (fun _ _ _ h => h) (by rfl) ?_ (by assumption) ?_
          rotate_left
          · (intro w hSw; obtain ⟨⟨y0, y1, _⟩, q0, q1⟩ := hSw; go_simp; (try rw [if_neg (by omega)]); try with_reducible rfl)
          try simp only [Act.put, List.setIfInBounds_toArray, List.set_cons_zero, List.set_cons_succ]
          refine takeW (i := 1) (d := some 54) (v := ?_) rfl rfl (by kernel_rfl) (by kernel_rfl) (by kernel_rfl) (fun _ _ _ h => h) (by rfl) ?_ (by assumption) ?_
          rotate_left
          · (intro w hSw; obtain ⟨⟨y0, y1, _⟩, q0, q1⟩ := hSw; go_simp; (try rw [if_neg (by omega)]); try with_reducible rfl)
          try simp only [Act.put, List.setIfInBounds_toArray, List.set_cons_zero, List.set_cons_succ]
          refine takeW (i := 2) (d := some 55) (v := ?_) rfl rfl (by kernel_rfl) (by kernel_rfl) (by kernel_rfl) (fun _ _ _ h => h) (by rfl) ?_ (by assumption) ?_
          rotate_left
          · (intro w hSw; obtain ⟨⟨y0, y1, _⟩, q0, q1⟩ := hSw; go_simp; (try rw [if_neg (by omega)]); try with_reducible rfl)
          try simp only [Act.put, List.setIfInBounds_toArray, List.set_cons_zero, List.set_cons_succ]
          refine takeW (i := 3) (d := some 56) (v := ?_) rfl rfl (by kernel_rfl) (by kernel_rfl) (by kernel_rfl) (fun _ _ _ h => h) (by rfl) ?_ (by assumption) ?_
          rotate_left
          · (intro w hSw; obtain ⟨⟨y0, y1, _⟩, q0, q1⟩ := hSw; go_simp; (try rw [if_neg (by omega)]); try with_reducible rfl)
          try simp only [Act.put, List.setIfInBounds_toArray, List.set_cons_zero, List.set_cons_succ]
          refine takeW (i := 4) (d := some 57) (v := ?_) rfl rfl (by kernel_rfl) (by kernel_rfl) (by kernel_rfl) (fun _ _ _ h => h) (by rfl) ?_ (by assumption) ?_
          rotate_left
          · (intro w hSw; obtain ⟨⟨y0, y1, _⟩, q0, q1⟩ := hSw; go_simp; (try rw [if_neg (by omega)]); try with_reducible rfl)
          try simp only [Act.put, List.setIfInBounds_toArray, List.set_cons_zero, List.set_cons_succ]
          refine takeW (i := 5) (d := some 58) (v := ?_) rfl rfl (by kernel_rfl) (by kernel_rfl) (by kernel_rfl) (fun _ _ _ h => h) (by rfl) ?_ (by assumption) ?_
          rotate_left
          · (intro w hSw; obtain ⟨⟨y0, y1, _⟩, q0, q1⟩ := hSw; go_simp; (try rw [if_neg (by omega)]); try with_reducible rfl)
          try simp only [Act.put, List.setIfInBounds_toArray, List.set_cons_zero, List.set_cons_succ]
          refine takeW (i := 6) (d := some 59) (v := ?_) rfl rfl (by kernel_rfl) (by kernel_rfl) (by kernel_rfl) (fun _ _ _ h => h) (by rfl) ?_ (by assumption) ?_
          rotate_left
          · (intro w hSw; obtain ⟨⟨y0, y1, _⟩, q0, q1⟩ := hSw; go_simp; (try rw [if_neg (by omega)]); try with_reducible rfl)
          try simp only [Act.put, List.setIfInBounds_toArray, List.set_cons_zero, List.set_cons_succ]
          refine takeW (i := 7) (d := some 60) (v := ?_) rfl rfl (by kernel_rfl) (by kernel_rfl) (by kernel_rfl) (fun _ _ _ h => h) (by rfl) ?_ (by assumption) ?_
          rotate_left
          · (intro w hSw; obtain ⟨⟨y0, y1, _⟩, q0, q1⟩ := hSw; go_simp; (try rw [if_neg (by omega)]); try with_reducible rfl)
          try simp only [Act.put, List.setIfInBounds_toArray, List.set_cons_zero, List.set_cons_succ]
          refine takeW (i := 11) (d := some 64) (v := ?_) rfl rfl (by kernel_rfl) (by kernel_rfl) (by kernel_rfl) (fun _ _ _ h => h) (by rfl) ?_ (by assumption) ?_
          rotate_left
          · (intro w hSw; obtain ⟨⟨y0, y1, _⟩, q0, q1⟩ := hSw; go_simp; (try rw [if_neg (by omega)]); try with_reducible rfl)
          try simp only [Act.put, List.setIfInBounds_toArray, List.set_cons_zero, List.set_cons_succ]
          refine takeW (i := 12) (d := some 65) (v := ?_) rfl rfl (by kernel_rfl) (by kernel_rfl) (by kernel_rfl) (fun _ _ _ h => h) (by rfl) ?_ (by assumption) ?_
          rotate_left
          · (intro w hSw; obtain ⟨⟨y0, y1, _⟩, q0, q1⟩ := hSw; go_simp; (try rw [if_neg (by omega)]); try with_reducible rfl)
          try simp only [Act.put, List.setIfInBounds_toArray, List.set_cons_zero, List.set_cons_succ]
          refine takeW (i := 13) (d := some 66) (v := ?_) rfl rfl (by kernel_rfl) (by kernel_rfl) (by kernel_rfl) (fun _ _ _ h => h) (by rfl) ?_ (by assumption) ?_
          rotate_left
          · (intro w hSw; obtain ⟨⟨y0, y1, _⟩, q0, q1⟩ := hSw; go_simp; (try rw [if_neg (by omega)]); try with_reducible rfl)
          try simp only [Act.put, List.setIfInBounds_toArray, List.set_cons_zero, List.set_cons_succ]
          refine takeW (i := 14) (d := some 67) (v := ?_) rfl rfl (by kernel_rfl) (by kernel_rfl) (by kernel_rfl) (fun _ _ _ h => h) (by rfl) ?_ (by assumption) ?_
          rotate_left
          · (intro w hSw; obtain ⟨⟨y0, y1, _⟩, q0, q1⟩ := hSw; go_simp; (try rw [if_neg (by omega)]); try with_reducible rfl)
          try simp only [Act.put, List.setIfInBounds_toArray, List.set_cons_zero, List.set_cons_succ]
          refine takeW (i := 15) (d := some 68) (v := ?_) rfl rfl (by kernel_rfl) (by kernel_rfl) (by kernel_rfl) (fun _ _ _ h => h) (by rfl) ?_ (by assumption) ?_
          rotate_left
          · (intro w hSw; obtain ⟨⟨y0, y1, _⟩, q0, q1⟩ := hSw; go_simp; (try rw [if_neg (by omega)]); try with_reducible rfl)
          try simp only [Act.put, List.setIfInBounds_toArray, List.set_cons_zero, List.set_cons_succ]
          refine takeW (i := 16) (d := some 69) (v := ?_) rfl rfl (by kernel_rfl) (by kernel_rfl) (by kernel_rfl) (fun _ _ _ h => h) (by rfl) ?_ (by assumption) ?_
          rotate_left
          · (intro w hSw; obtain ⟨⟨y0, y1, _⟩, q0, q1⟩ := hSw; go_simp; (try rw [if_neg (by omega)]); try with_reducible rfl)
          try simp only [Act.put, List.setIfInBounds_toArray, List.set_cons_zero, List.set_cons_succ]
          refine wpAnyH_ready (rs := [8, 20]) (by kernel_rfl) (by simp) ?_
          refine AllReadyH.cons rfl (fun K hK => ?_) (AllReadyH.cons rfl (fun K hK => ?_) (AllReadyH.nil))
          · go_simp
            refine (Dp.out _).mono ?_
            rintro e w4 ⟨rfl, b1⟩
            have S := Lib.hid (S.out.below b1)
            clear b1
            refine hK.out _ _ ?_ (fun hHeld => ?_)
            · exact S.out
            clear hK K
            try simp only [Act.put, List.setIfInBounds_toArray, List.set_cons_zero, List.set_cons_succ]
            refine takeW (i := 9) (d := some 62) (v := ?_) rfl rfl (by kernel_rfl) (by kernel_rfl) (by kernel_rfl) (fun _ _ _ h => h) (by rfl) ?_ (by assumption) ?_
            rotate_left
            · (intro w hSw; obtain ⟨⟨y0, y1, _⟩, q0, q1⟩ := hSw; go_simp; (try rw [if_neg (by omega)]); try with_reducible rfl)
            try simp only [Act.put, List.setIfInBounds_toArray, List.set_cons_zero, List.set_cons_succ]
            refine takeW (i := 10) (d := some 63) (v := ?_) rfl rfl (by kernel_rfl) (by kernel_rfl) (by kernel_rfl) (fun _ _ _ h => h) (by rfl) ?_ (by assumption) ?_
            rotate_left
            · (intro w hSw; obtain ⟨⟨y0, y1, _⟩, q0, q1⟩ := hSw; go_simp; (try rw [if_neg (by omega)]); try with_reducible rfl)
            try simp only [Act.put, List.setIfInBounds_toArray, List.set_cons_zero, List.set_cons_succ]
            refine wpAnyH_ready (rs := [17, 20]) (by kernel_rfl) (by simp) ?_
            refine AllReadyH.cons rfl (fun K hK => ?_) (AllReadyH.cons rfl (fun K hK => ?_) (AllReadyH.nil))
            · go_simp
              refine (Df.out _).mono ?_
              rintro e w4 ⟨rfl, b1⟩
              have S := Lib.hid (S.out.below b1)
              clear b1
              refine hK.out _ _ ?_ (fun hHeld => ?_)
              · exact S.out
              clear hK K
              try simp only [Act.put, List.setIfInBounds_toArray, List.set_cons_zero, List.set_cons_succ]
              refine takeW (i := 18) (d := some 71) (v := ?_) rfl rfl (by kernel_rfl) (by kernel_rfl) (by kernel_rfl) (fun _ _ _ h => h) (by rfl) ?_ (by assumption) ?_
              rotate_left
              · (intro w hSw; obtain ⟨⟨y0, y1, _⟩, q0, q1⟩ := hSw; go_simp; (try rw [if_neg (by omega)]); try with_reducible rfl)
              try simp only [Act.put, List.setIfInBounds_toArray, List.set_cons_zero, List.set_cons_succ]
              refine takeW (i := 19) (d := some 72) (v := ?_) rfl rfl (by kernel_rfl) (by kernel_rfl) (by kernel_rfl) (fun _ _ _ h => h) (by rfl) ?_ (by assumption) ?_
              rotate_left
              · (intro w hSw; obtain ⟨⟨y0, y1, _⟩, q0, q1⟩ := hSw; go_simp; (try rw [if_neg (by omega)]); try with_reducible rfl)
              try simp only [Act.put, List.setIfInBounds_toArray, List.set_cons_zero, List.set_cons_succ]
              refine wpAnyH_ready (rs := [20]) (by kernel_rfl) (by simp) ?_
              refine AllReadyH.cons rfl (fun K hK => ?_) (AllReadyH.nil)
              · go_simp
                have CB := Lib.hid (newline_new w4)
                have S := Lib.hid (S.out.alloc (.cells #[.int .u8 10] 5))
                refine hK.out _ _ ?_ (fun hHeld => ?_)
                · exact S.out
                clear hK K
                try simp only [Act.put, List.setIfInBounds_toArray, List.set_cons_zero, List.set_cons_succ]
                generalize w4.alloc (.cells #[.int .u8 10] 5) = w4 at *
                refine wpAnyH_ready (rs := [21]) (by kernel_rfl) (by simp) ?_
                refine AllReadyH.cons rfl (fun K hK => ?_) (AllReadyH.nil)
                · go_simp
                  rw [newline_conv CB.out]
                  go_simp
                  refine hK.out _ _ ?_ (fun hHeld => ?_)
                  · exact S.out
                  clear hK K
                  try simp only [Act.put, List.setIfInBounds_toArray, List.set_cons_zero, List.set_cons_succ]
                  refine takeW (i := 22) (d := some 75) (v := ?_) rfl rfl (by kernel_rfl) (by kernel_rfl) (by kernel_rfl) (fun _ _ _ h => h) (by rfl) ?_ (by assumption) ?_
                  rotate_left
                  · (intro w hSw; obtain ⟨⟨y0, y1, _⟩, q0, q1⟩ := hSw; go_simp; (try rw [if_neg (by omega)]); try with_reducible rfl)
                  try simp only [Act.put, List.setIfInBounds_toArray, List.set_cons_zero, List.set_cons_succ]
                  refine takeW (i := 23) (d := some 5) (v := ?_) rfl rfl (by kernel_rfl) (by kernel_rfl) (by kernel_rfl) (fun _ _ _ h => h) (by rfl) ?_ (by assumption) ?_
                  rotate_left
                  · (intro w hSw; obtain ⟨⟨y0, y1, _⟩, q0, q1⟩ := hSw; go_simp; (try rw [if_neg (by omega)]); try with_reducible rfl)
                  try simp only [Act.put, List.setIfInBounds_toArray, List.set_cons_zero, List.set_cons_succ]
                  refine wpAnyH_done (by kernel_rfl) ?_ _
                  go_wp2_with fail
                  go_roundw
                  case rel => exact ⟨k + 1, by go_num, by omega, congrArg Value.string HE.out, S.out.1⟩
                  case measure => show ss.length - ((k : Int) + 1).toNat < ss.length - (k : Int).toNat; omega
            · go_simp
              have CB := Lib.hid (newline_new w4)
              have S := Lib.hid (S.out.alloc (.cells #[.int .u8 10] 5))
              refine hK.out _ _ ?_ (fun hHeld => ?_)
              · exact S.out
              clear hK K
              try simp only [Act.put, List.setIfInBounds_toArray, List.set_cons_zero, List.set_cons_succ]
              generalize w4.alloc (.cells #[.int .u8 10] 5) = w4 at *
              refine wpAnyH_ready (rs := [17, 21]) (by kernel_rfl) (by simp) ?_
              refine AllReadyH.cons rfl (fun K hK => ?_) (AllReadyH.cons rfl (fun K hK => ?_) (AllReadyH.nil))
              · go_simp
                refine (Df.out _).mono ?_
                rintro e w4 ⟨rfl, b1⟩
                have S := Lib.hid (S.out.below b1)
                have CB := Lib.hid (below_cell_of b1 CB.out)
                clear b1
                refine hK.out _ _ ?_ (fun hHeld => ?_)
                · exact S.out
                clear hK K
                try simp only [Act.put, List.setIfInBounds_toArray, List.set_cons_zero, List.set_cons_succ]
                refine takeW (i := 18) (d := some 71) (v := ?_) rfl rfl (by kernel_rfl) (by kernel_rfl) (by kernel_rfl) (fun _ _ _ h => h) (by rfl) ?_ (by assumption) ?_
                rotate_left
                · (intro w hSw; obtain ⟨⟨y0, y1, _⟩, q0, q1⟩ := hSw; go_simp; (try rw [if_neg (by omega)]); try with_reducible rfl)
                try simp only [Act.put, List.setIfInBounds_toArray, List.set_cons_zero, List.set_cons_succ]
                refine takeW (i := 19) (d := some 72) (v := ?_) rfl rfl (by kernel_rfl) (by kernel_rfl) (by kernel_rfl) (fun _ _ _ h => h) (by rfl) ?_ (by assumption) ?_
                rotate_left
                · (intro w hSw; obtain ⟨⟨y0, y1, _⟩, q0, q1⟩ := hSw; go_simp; (try rw [if_neg (by omega)]); try with_reducible rfl)
                try simp only [Act.put, List.setIfInBounds_toArray, List.set_cons_zero, List.set_cons_succ]
                refine wpAnyH_ready (rs := [21]) (by kernel_rfl) (by simp) ?_
                refine AllReadyH.cons rfl (fun K hK => ?_) (AllReadyH.nil)
                · go_simp
                  rw [newline_conv CB.out]
                  go_simp
                  refine hK.out _ _ ?_ (fun hHeld => ?_)
                  · exact S.out
                  clear hK K
                  try simp only [Act.put, List.setIfInBounds_toArray, List.set_cons_zero, List.set_cons_succ]
                  refine takeW (i := 22) (d := some 75) (v := ?_) rfl rfl (by kernel_rfl) (by kernel_rfl) (by kernel_rfl) (fun _ _ _ h => h) (by rfl) ?_ (by assumption) ?_
                  rotate_left
                  · (intro w hSw; obtain ⟨⟨y0, y1, _⟩, q0, q1⟩ := hSw; go_simp; (try rw [if_neg (by omega)]); try with_reducible rfl)
                  try simp only [Act.put, List.setIfInBounds_toArray, List.set_cons_zero, List.set_cons_succ]
                  refine takeW (i := 23) (d := some 5) (v := ?_) rfl rfl (by kernel_rfl) (by kernel_rfl) (by kernel_rfl) (fun _ _ _ h => h) (by rfl) ?_ (by assumption) ?_
                  rotate_left
                  · (intro w hSw; obtain ⟨⟨y0, y1, _⟩, q0, q1⟩ := hSw; go_simp; (try rw [if_neg (by omega)]); try with_reducible rfl)
                  try simp only [Act.put, List.setIfInBounds_toArray, List.set_cons_zero, List.set_cons_succ]
                  refine wpAnyH_done (by kernel_rfl) ?_ _
                  go_wp2_with fail
                  go_roundw
                  case rel => exact ⟨k + 1, by go_num, by omega, congrArg Value.string HE.out, S.out.1⟩
                  case measure => show ss.length - ((k : Int) + 1).toNat < ss.length - (k : Int).toNat; omega
              · go_simp
                rw [newline_conv CB.out]
                go_simp
                refine hK.out _ _ ?_ (fun hHeld => ?_)
                · exact S.out
                clear hK K
                try simp only [Act.put, List.setIfInBounds_toArray, List.set_cons_zero, List.set_cons_succ]
                refine wpAnyH_ready (rs := [17]) (by kernel_rfl) (by simp) ?_
                refine AllReadyH.cons rfl (fun K hK => ?_) (AllReadyH.nil)
                · go_simp
                  refine (Df.out _).mono ?_
                  rintro e w4 ⟨rfl, b1⟩
                  have S := Lib.hid (S.out.below b1)
                  clear b1
                  refine hK.out _ _ ?_ (fun hHeld => ?_)
                  · exact S.out
                  clear hK K
                  try simp only [Act.put, List.setIfInBounds_toArray, List.set_cons_zero, List.set_cons_succ]
                  refine takeW (i := 18) (d := some 71) (v := ?_) rfl rfl (by kernel_rfl) (by kernel_rfl) (by kernel_rfl) (fun _ _ _ h => h) (by rfl) ?_ (by assumption) ?_
                  rotate_left
                  · (intro w hSw; obtain ⟨⟨y0, y1, _⟩, q0, q1⟩ := hSw; go_simp; (try rw [if_neg (by omega)]); try with_reducible rfl)
                  try simp only [Act.put, List.setIfInBounds_toArray, List.set_cons_zero, List.set_cons_succ]
                  refine takeW (i := 19) (d := some 72) (v := ?_) rfl rfl (by kernel_rfl) (by kernel_rfl) (by kernel_rfl) (fun _ _ _ h => h) (by rfl) ?_ (by assumption) ?_
                  rotate_left
                  · (intro w hSw; obtain ⟨⟨y0, y1, _⟩, q0, q1⟩ := hSw; go_simp; (try rw [if_neg (by omega)]); try with_reducible rfl)
                  try simp only [Act.put, List.setIfInBounds_toArray, List.set_cons_zero, List.set_cons_succ]
                  refine takeW (i := 22) (d := some 75) (v := ?_) rfl rfl (by kernel_rfl) (by kernel_rfl) (by kernel_rfl) (fun _ _ _ h => h) (by rfl) ?_ (by assumption) ?_
                  rotate_left
                  · (intro w hSw; obtain ⟨⟨y0, y1, _⟩, q0, q1⟩ := hSw; go_simp; (try rw [if_neg (by omega)]); try with_reducible rfl)
                  try simp only [Act.put, List.setIfInBounds_toArray, List.set_cons_zero, List.set_cons_succ]
                  refine takeW (i := 23) (d := some 5) (v := ?_) rfl rfl (by kernel_rfl) (by kernel_rfl) (by kernel_rfl) (fun _ _ _ h => h) (by rfl) ?_ (by assumption) ?_
                  rotate_left
                  · (intro w hSw; obtain ⟨⟨y0, y1, _⟩, q0, q1⟩ := hSw; go_simp; (try rw [if_neg (by omega)]); try with_reducible rfl)
                  try simp only [Act.put, List.setIfInBounds_toArray, List.set_cons_zero, List.set_cons_succ]
                  refine wpAnyH_done (by kernel_rfl) ?_ _
                  go_wp2_with fail
                  go_roundw
                  case rel => exact ⟨k + 1, by go_num, by omega, congrArg Value.string HE.out, S.out.1⟩
                  case measure => show ss.length - ((k : Int) + 1).toNat < ss.length - (k : Int).toNat; omega
          · go_simp
            have CB := Lib.hid (newline_new w4)
            have S := Lib.hid (S.out.alloc (.cells #[.int .u8 10] 5))
            refine hK.out _ _ ?_ (fun hHeld => ?_)
            · exact S.out
            clear hK K
            try simp only [Act.put, List.setIfInBounds_toArray, List.set_cons_zero, List.set_cons_succ]
            generalize w4.alloc (.cells #[.int .u8 10] 5) = w4 at *
            refine wpAnyH_ready (rs := [8, 21]) (by kernel_rfl) (by simp) ?_
            refine AllReadyH.cons rfl (fun K hK => ?_) (AllReadyH.cons rfl (fun K hK => ?_) (AllReadyH.nil))
            · go_simp
              refine (Dp.out _).mono ?_
              rintro e w4 ⟨rfl, b1⟩
              have S := Lib.hid (S.out.below b1)
              have CB := Lib.hid (below_cell_of b1 CB.out)
              clear b1
              refine hK.out _ _ ?_ (fun hHeld => ?_)
              · exact S.out
              clear hK K
              try simp only [Act.put, List.setIfInBounds_toArray, List.set_cons_zero, List.set_cons_succ]
              refine takeW (i := 9) (d := some 62) (v := ?_) rfl rfl (by kernel_rfl) (by kernel_rfl) (by kernel_rfl) (fun _ _ _ h => h) (by rfl) ?_ (by assumption) ?_
              rotate_left
              · (intro w hSw; obtain ⟨⟨y0, y1, _⟩, q0, q1⟩ := hSw; go_simp; (try rw [if_neg (by omega)]); try with_reducible rfl)
              try simp only [Act.put, List.setIfInBounds_toArray, List.set_cons_zero, List.set_cons_succ]
              refine takeW (i := 10) (d := some 63) (v := ?_) rfl rfl (by kernel_rfl) (by kernel_rfl) (by kernel_rfl) (fun _ _ _ h => h) (by rfl) ?_ (by assumption) ?_
              rotate_left
              · (intro w hSw; obtain ⟨⟨y0, y1, _⟩, q0, q1⟩ := hSw; go_simp; (try rw [if_neg (by omega)]); try with_reducible rfl)
              try simp only [Act.put, List.setIfInBounds_toArray, List.set_cons_zero, List.set_cons_succ]
              refine wpAnyH_ready (rs := [17, 21]) (by kernel_rfl) (by simp) ?_
              refine AllReadyH.cons rfl (fun K hK => ?_) (AllReadyH.cons rfl (fun K hK => ?_) (AllReadyH.nil))
              · go_simp
                refine (Df.out _).mono ?_
                rintro e w4 ⟨rfl, b1⟩
                have S := Lib.hid (S.out.below b1)
                have CB := Lib.hid (below_cell_of b1 CB.out)
                clear b1
                refine hK.out _ _ ?_ (fun hHeld => ?_)
                · exact S.out
                clear hK K
                try simp only [Act.put, List.setIfInBounds_toArray, List.set_cons_zero, List.set_cons_succ]
                refine takeW (i := 18) (d := some 71) (v := ?_) rfl rfl (by kernel_rfl) (by kernel_rfl) (by kernel_rfl) (fun _ _ _ h => h) (by rfl) ?_ (by assumption) ?_
                rotate_left
                · (intro w hSw; obtain ⟨⟨y0, y1, _⟩, q0, q1⟩ := hSw; go_simp; (try rw [if_neg (by omega)]); try with_reducible rfl)
                try simp only [Act.put, List.setIfInBounds_toArray, List.set_cons_zero, List.set_cons_succ]
                refine takeW (i := 19) (d := some 72) (v := ?_) rfl rfl (by kernel_rfl) (by kernel_rfl) (by kernel_rfl) (fun _ _ _ h => h) (by rfl) ?_ (by assumption) ?_
                rotate_left
                · (intro w hSw; obtain ⟨⟨y0, y1, _⟩, q0, q1⟩ := hSw; go_simp; (try rw [if_neg (by omega)]); try with_reducible rfl)
                try simp only [Act.put, List.setIfInBounds_toArray, List.set_cons_zero, List.set_cons_succ]
                refine wpAnyH_ready (rs := [21]) (by kernel_rfl) (by simp) ?_
                refine AllReadyH.cons rfl (fun K hK => ?_) (AllReadyH.nil)
                · go_simp
                  rw [newline_conv CB.out]
                  go_simp
                  refine hK.out _ _ ?_ (fun hHeld => ?_)
                  · exact S.out
                  clear hK K
                  try simp only [Act.put, List.setIfInBounds_toArray, List.set_cons_zero, List.set_cons_succ]
                  refine takeW (i := 22) (d := some 75) (v := ?_) rfl rfl (by kernel_rfl) (by kernel_rfl) (by kernel_rfl) (fun _ _ _ h => h) (by rfl) ?_ (by assumption) ?_
                  rotate_left
                  · (intro w hSw; obtain ⟨⟨y0, y1, _⟩, q0, q1⟩ := hSw; go_simp; (try rw [if_neg (by omega)]); try with_reducible rfl)
                  try simp only [Act.put, List.setIfInBounds_toArray, List.set_cons_zero, List.set_cons_succ]
                  refine takeW (i := 23) (d := some 5) (v := ?_) rfl rfl (by kernel_rfl) (by kernel_rfl) (by kernel_rfl) (fun _ _ _ h => h) (by rfl) ?_ (by assumption) ?_
                  rotate_left
                  · (intro w hSw; obtain ⟨⟨y0, y1, _⟩, q0, q1⟩ := hSw; go_simp; (try rw [if_neg (by omega)]); try with_reducible rfl)
                  try simp only [Act.put, List.setIfInBounds_toArray, List.set_cons_zero, List.set_cons_succ]
                  refine wpAnyH_done (by kernel_rfl) ?_ _
                  go_wp2_with fail
                  go_roundw
                  case rel => exact ⟨k + 1, by go_num, by omega, congrArg Value.string HE.out, S.out.1⟩
                  case measure => show ss.length - ((k : Int) + 1).toNat < ss.length - (k : Int).toNat; omega
              · go_simp
                rw [newline_conv CB.out]
                go_simp
                refine hK.out _ _ ?_ (fun hHeld => ?_)
                · exact S.out
                clear hK K
                try simp only [Act.put, List.setIfInBounds_toArray, List.set_cons_zero, List.set_cons_succ]
                refine wpAnyH_ready (rs := [17]) (by kernel_rfl) (by simp) ?_
                refine AllReadyH.cons rfl (fun K hK => ?_) (AllReadyH.nil)
                · go_simp
                  refine (Df.out _).mono ?_
                  rintro e w4 ⟨rfl, b1⟩
                  have S := Lib.hid (S.out.below b1)
                  clear b1
                  refine hK.out _ _ ?_ (fun hHeld => ?_)
                  · exact S.out
                  clear hK K
                  try simp only [Act.put, List.setIfInBounds_toArray, List.set_cons_zero, List.set_cons_succ]
                  refine takeW (i := 18) (d := some 71) (v := ?_) rfl rfl (by kernel_rfl) (by kernel_rfl) (by kernel_rfl) (fun _ _ _ h => h) (by rfl) ?_ (by assumption) ?_
                  rotate_left
                  · (intro w hSw; obtain ⟨⟨y0, y1, _⟩, q0, q1⟩ := hSw; go_simp; (try rw [if_neg (by omega)]); try with_reducible rfl)
                  try simp only [Act.put, List.setIfInBounds_toArray, List.set_cons_zero, List.set_cons_succ]
                  refine takeW (i := 19) (d := some 72) (v := ?_) rfl rfl (by kernel_rfl) (by kernel_rfl) (by kernel_rfl) (fun _ _ _ h => h) (by rfl) ?_ (by assumption) ?_
                  rotate_left
                  · (intro w hSw; obtain ⟨⟨y0, y1, _⟩, q0, q1⟩ := hSw; go_simp; (try rw [if_neg (by omega)]); try with_reducible rfl)
                  try simp only [Act.put, List.setIfInBounds_toArray, List.set_cons_zero, List.set_cons_succ]
                  refine takeW (i := 22) (d := some 75) (v := ?_) rfl rfl (by kernel_rfl) (by kernel_rfl) (by kernel_rfl) (fun _ _ _ h => h) (by rfl) ?_ (by assumption) ?_
                  rotate_left
                  · (intro w hSw; obtain ⟨⟨y0, y1, _⟩, q0, q1⟩ := hSw; go_simp; (try rw [if_neg (by omega)]); try with_reducible rfl)
                  try simp only [Act.put, List.setIfInBounds_toArray, List.set_cons_zero, List.set_cons_succ]
                  refine takeW (i := 23) (d := some 5) (v := ?_) rfl rfl (by kernel_rfl) (by kernel_rfl) (by kernel_rfl) (fun _ _ _ h => h) (by rfl) ?_ (by assumption) ?_
                  rotate_left
                  · (intro w hSw; obtain ⟨⟨y0, y1, _⟩, q0, q1⟩ := hSw; go_simp; (try rw [if_neg (by omega)]); try with_reducible rfl)
                  try simp only [Act.put, List.setIfInBounds_toArray, List.set_cons_zero, List.set_cons_succ]
                  refine wpAnyH_done (by kernel_rfl) ?_ _
                  go_wp2_with fail
                  go_roundw
                  case rel => exact ⟨k + 1, by go_num, by omega, congrArg Value.string HE.out, S.out.1⟩
                  case measure => show ss.length - ((k : Int) + 1).toNat < ss.length - (k : Int).toNat; omega
            · go_simp
              rw [newline_conv CB.out]
              go_simp
              refine hK.out _ _ ?_ (fun hHeld => ?_)
              · exact S.out
              clear hK K
              try simp only [Act.put, List.setIfInBounds_toArray, List.set_cons_zero, List.set_cons_succ]
              refine wpAnyH_ready (rs := [8]) (by kernel_rfl) (by simp) ?_
              refine AllReadyH.cons rfl (fun K hK => ?_) (AllReadyH.nil)
              · go_simp
                refine (Dp.out _).mono ?_
                rintro e w4 ⟨rfl, b1⟩
                have S := Lib.hid (S.out.below b1)
                clear b1
                refine hK.out _ _ ?_ (fun hHeld => ?_)
                · exact S.out
                clear hK K
                try simp only [Act.put, List.setIfInBounds_toArray, List.set_cons_zero, List.set_cons_succ]
                refine takeW (i := 9) (d := some 62) (v := ?_) rfl rfl (by kernel_rfl) (by kernel_rfl) (by kernel_rfl) (fun _ _ _ h => h) (by rfl) ?_ (by assumption) ?_
                rotate_left
                · (intro w hSw; obtain ⟨⟨y0, y1, _⟩, q0, q1⟩ := hSw; go_simp; (try rw [if_neg (by omega)]); try with_reducible rfl)
                try simp only [Act.put, List.setIfInBounds_toArray, List.set_cons_zero, List.set_cons_succ]
                refine takeW (i := 10) (d := some 63) (v := ?_) rfl rfl (by kernel_rfl) (by kernel_rfl) (by kernel_rfl) (fun _ _ _ h => h) (by rfl) ?_ (by assumption) ?_
                rotate_left
                · (intro w hSw; obtain ⟨⟨y0, y1, _⟩, q0, q1⟩ := hSw; go_simp; (try rw [if_neg (by omega)]); try with_reducible rfl)
                try simp only [Act.put, List.setIfInBounds_toArray, List.set_cons_zero, List.set_cons_succ]
                refine wpAnyH_ready (rs := [17]) (by kernel_rfl) (by simp) ?_
                refine AllReadyH.cons rfl (fun K hK => ?_) (AllReadyH.nil)
                · go_simp
                  refine (Df.out _).mono ?_
                  rintro e w4 ⟨rfl, b1⟩
                  have S := Lib.hid (S.out.below b1)
                  clear b1
                  refine hK.out _ _ ?_ (fun hHeld => ?_)
                  · exact S.out
                  clear hK K
                  try simp only [Act.put, List.setIfInBounds_toArray, List.set_cons_zero, List.set_cons_succ]
                  refine takeW (i := 18) (d := some 71) (v := ?_) rfl rfl (by kernel_rfl) (by kernel_rfl) (by kernel_rfl) (fun _ _ _ h => h) (by rfl) ?_ (by assumption) ?_
                  rotate_left
                  · (intro w hSw; obtain ⟨⟨y0, y1, _⟩, q0, q1⟩ := hSw; go_simp; (try rw [if_neg (by omega)]); try with_reducible rfl)
                  try simp only [Act.put, List.setIfInBounds_toArray, List.set_cons_zero, List.set_cons_succ]
                  refine takeW (i := 19) (d := some 72) (v := ?_) rfl rfl (by kernel_rfl) (by kernel_rfl) (by kernel_rfl) (fun _ _ _ h => h) (by rfl) ?_ (by assumption) ?_
                  rotate_left
                  · (intro w hSw; obtain ⟨⟨y0, y1, _⟩, q0, q1⟩ := hSw; go_simp; (try rw [if_neg (by omega)]); try with_reducible rfl)
                  try simp only [Act.put, List.setIfInBounds_toArray, List.set_cons_zero, List.set_cons_succ]
                  refine takeW (i := 22) (d := some 75) (v := ?_) rfl rfl (by kernel_rfl) (by kernel_rfl) (by kernel_rfl) (fun _ _ _ h => h) (by rfl) ?_ (by assumption) ?_
                  rotate_left
                  · (intro w hSw; obtain ⟨⟨y0, y1, _⟩, q0, q1⟩ := hSw; go_simp; (try rw [if_neg (by omega)]); try with_reducible rfl)
                  try simp only [Act.put, List.setIfInBounds_toArray, List.set_cons_zero, List.set_cons_succ]
                  refine takeW (i := 23) (d := some 5) (v := ?_) rfl rfl (by kernel_rfl) (by kernel_rfl) (by kernel_rfl) (fun _ _ _ h => h) (by rfl) ?_ (by assumption) ?_
                  rotate_left
                  · (intro w hSw; obtain ⟨⟨y0, y1, _⟩, q0, q1⟩ := hSw; go_simp; (try rw [if_neg (by omega)]); try with_reducible rfl)
                  try simp only [Act.put, List.setIfInBounds_toArray, List.set_cons_zero, List.set_cons_succ]
                  refine wpAnyH_done (by kernel_rfl) ?_ _
                  go_wp2_with fail
                  go_roundw
                  case rel => exact ⟨k + 1, by go_num, by omega, congrArg Value.string HE.out, S.out.1⟩
                  case measure => show ss.length - ((k : Int) + 1).toNat < ss.length - (k : Int).toNat; omega
        · have hk1 : (ss.length : Int) ≤ (k : Int) := by omega
          have hke : k = ss.length := by omega
          have HR : Hid ((⟨(textTs ts ++ textSs (ss.take k)).toArray⟩ : ByteArray) = ⟨(textTs ts ++ textSs ss).toArray⟩) := Lib.hid (by rw [hke, List.take_length])
          rw [HR.out]
          go_wp2_with fail
          go_ret2
          exact ⟨rfl, S.out.bel⟩
end Go.Proofs.YtlhgpeelenelbaaDoor
