/- Contract of Holds. -/
import Derived.Test.YtlhgpeelenelbaaDoorC4
import Derived.Test.YtlhgpeelenelbaaDoorD6
import Derived.Test.YtlhgpeelenelbaaDoorB1
namespace Go.Proofs.YtlhgpeelenelbaaDoor
open Go.RowKit

theorem Lot.has_lo {x : Lot} (h : x.ok) {n : Int} (hn : MOk n) : x.has n ↔ x.lo n ≤ n := by
  obtain ⟨s1, s2, s3⟩ := Lot.spec h n (by unfold MOk at hn; omega)
  obtain ⟨n0, n1⟩ := hn
  constructor
  · intro hh
    apply Classical.byContradiction
    intro c
    exact s2 n (Int.le_refl _) (by omega) n1 hh
  · intro c
    exact s3 n c s1 n1
theorem lot_from_T (p f l n : Int) (w : World) (h : TOk p f l) (hn : MOk n) : Calls Tryd.prog 81 #[.agg #[.int .i64 p, .int .i64 f, .int .i64 l], .int .i64 n] w fun e w' => e = .returned (.agg #[.int .i64 (Lot.lo ⟨true, p, f, l⟩ n), .int .i64 (Lot.hi ⟨true, p, f, l⟩ n)]) ∧ Below w.heap.size w w' :=
  from_any p f l n w h (by unfold MOk at hn; omega) (by unfold MOk at hn; omega)
theorem lot_from_S (a b c n : Int) (w : World) : Calls Tryd.prog 172 #[.agg #[.int .i64 a, .int .i64 b], .int .i64 n] w fun e w' => e = .returned (.agg #[.int .i64 (Lot.lo ⟨false, a, b, c⟩ n), .int .i64 (Lot.hi ⟨false, a, b, c⟩ n)]) ∧ Below w.heap.size w w' :=
  sfrom_any a b n w

set_option maxHeartbeats 2000000 in
set_option maxRecDepth 100000 in
theorem holds_ok (v : Value) (ts : List T3) (ss : List S2) (n : Int) (w : World) (h : RM w.heap.size v ts ss w) (hc : CheckIs ts ss 0) (hn : MOk n) :
    Calls Tryd.prog 17 #[v, .int .i64 n] w fun e w' => e = .returned (.tuple #[.bool (setB (lotsOf ts ss) n), .int .i64 0]) ∧ Below w.heap.size w w' := by
  have H := Lib.hid h
  obtain ⟨A, m, ca, A', m', ca', rfl, h1, h2⟩ := h
  have hok : ts.length ≤ 24 ∧ ss.length ≤ 40 ∧ AllOk ts ss := by
    rcases hc with ⟨_, h⟩ | ⟨h1, h2, h3, _⟩ | ⟨_, _, _, h⟩
    · omega
    · exact ⟨h1, h2, h3⟩
    · omega
  have C : Hid (∀ W, Below w.heap.size w W → w.heap.size ≤ W.heap.size → Calls Tryd.prog 67 #[.agg #[.slice A m ca, .slice A' m' ca'], .int .i64 n] W fun e w' => e = .returned (.int .i64 0) ∧ Below W.heap.size W w') :=
    Lib.hid fun W hb hs => checkAt_any _ ts ss n 0 0 W (H.out.up hs hb) hc (.inr (.inl ⟨rfl, hn, rfl⟩))
  have L : Hid (∀ W, Below w.heap.size w W → w.heap.size ≤ W.heap.size → Calls Tryd.prog 68 #[.agg #[.slice A m ca, .slice A' m' ca']] W (LotsPost ts ss W)) :=
    Lib.hid fun W hb hs => lots_any _ _ ts ss W (h1.up hs hb) (h2.up hs hb) hok.1 hok.2.1
  have HN := Lib.hid hn
  have OK := Lib.hid hok
  clear h1 h2 hc hn hok
  have BX := Lib.hid ((Below.refl w.heap.size w).alloc (Nat.le_refl _) (.cells #[.slice A m ca, .slice A' m' ca'] 25))
  have LN : (lotsOf ts ss).length = ts.length + ss.length := by simp [lotsOf]
  have LOK := Lib.hid (lotsOf_ok OK.out.2.2)
  have LV := Lib.hid (lotsF_val ts ss)
  obtain ⟨xs, hxs⟩ : ∃ xs, lotsOf ts ss = xs := ⟨_, rfl⟩
  rw [hxs] at LN LOK LV ⊢
  obtain ⟨r, hr⟩ : ∃ r, setB xs n = r := ⟨_, rfl⟩
  have HR := Lib.hid hr
  rw [hr]
  clear hr hxs
  go_enter Tryd.func17, Tryd.ntmps17
  go_wp2_with fail
  refine (C.out _ BX.out (by simp)).mono ?_
  rintro e w1 ⟨rfl, hb1⟩
  have hz1 : w.heap.size < w1.heap.size := by have := hb1.size; simp at this; omega
  have q0 : w1.cell? ⟨w.heap.size, 0, none⟩ = some (.slice A m ca) := (hb1.cell (p := ⟨w.heap.size, 0, none⟩) (by simp)).trans (by simp [go_sem])
  have q1 : w1.cell? ⟨w.heap.size, 1, none⟩ = some (.slice A' m' ca') := (hb1.cell (p := ⟨w.heap.size, 1, none⟩) (by simp)).trans (by simp [go_sem])
  have B1 := Lib.hid (BX.out.trans (hb1.mono (by simp)))
  clear hb1
  go_wp2_with fail
  refine (L.out _ B1.out (by omega)).mono ?_
  rintro e w2 ⟨lv, rfl, hown, hb2⟩
  have HO := Lib.hid hown
  have B2 := Lib.hid (B1.out.trans (hb2.mono (by omega)))
  have z2 := hb2.size
  clear hb2 q0 q1
  rw [LV.out] at hown HO
  obtain ⟨N, hNe⟩ : ∃ N, ts.length + ss.length = N := ⟨_, rfl⟩
  have hN64 : N ≤ 64 := by have := OK.out.1; have := OK.out.2.1; omega
  rw [hNe] at LN HO hown
  rcases hown.2 with ⟨rfl, h0⟩ | ⟨g, c, cur, rfl, hg, hblk, hnc, hcm, hcs, htk⟩
  · obtain rfl : xs = [] := List.length_eq_zero_iff.1 (by omega)
    obtain rfl : r = false := HR.out.symm
    subst h0
    go_wp2_with fail
    refine wp_loop_rounds 1 ?_
    rw [rounds_succ]
    go_wp2_with fail
    go_ret2
    exact ⟨rfl, B2.out⟩
  · have hlt : g < w2.heap.size := by
      rcases Nat.lt_or_ge g w2.heap.size with h | h
      · exact h
      · rw [Array.getElem?_eq_none h] at hblk; cases hblk
    have HC := Lib.hid fun j hj => World.ownsRow.cellAt HO.out j hj
    clear hown hblk hcs htk
    go_wp2_with fail
    have FT := Lib.hid (fun p f l W h => lot_from_T p f l n W h HN.out)
    have FS := Lib.hid (fun a b c W => lot_from_S a b c n W)
    have mT := m_from_T
    have mS := m_from_S
    have hf0 := fld0
    go_loopw [18] (fun v wr => ∃ k : Nat, v = .int .i64 k ∧ k ≤ N ∧ setB (xs.take k) n = false ∧ Below w2.heap.size w2 wr) (fun v _ => N - (intOf v).toNat)
    case atStart => exact ⟨0, rfl, by omega, rfl, Below.refl _ _⟩
    case round =>
      obtain ⟨k, rfl, hk, hno, hB⟩ := hrel
      have HB := Lib.hid hB
      have HNo := Lib.hid hno
      clear hB hno
      by_cases hkn : k < N
      · obtain ⟨x, hxk⟩ : ∃ x, xs[k]? = some x := ⟨_, List.getElem?_eq_getElem (by omega)⟩
        have hk0 : (k : Int) < (N : Int) := by omega
        have hcell : wr.cell? ⟨g, k, none⟩ = some x.val := (HB.out.cell (p := ⟨g, k, none⟩) hlt).trans ((HC.out k (by omega)).trans (by simp [hxk]))
        have hxo : x.ok := LOK.out x (List.mem_of_getElem? hxk)
        have hx2 := Lot.has_lo hxo HN.out
        have HT : Hid (setB (xs.take (k + 1)) n = x.hasB n) := Lib.hid (by
          obtain ⟨h1, rfl⟩ := List.getElem?_eq_some_iff.1 hxk
          rw [List.take_succ_eq_append_getElem h1, setB, List.any_append]
          rw [show (xs.take k).any (fun x => x.hasB n) = false from HNo.out]
          simp)
        have HX := Lib.hid (And.intro hxk (And.intro hxo hx2))
        clear hxk hxo hx2
        obtain ⟨kd, a, b, c'⟩ := x
        cases kd
        · have C2 := Lib.hid (FS.out a b c')
          have e1 : Lot.val ⟨false, a, b, c'⟩ = .iface 147 (.agg #[.int .i64 a, .int .i64 b]) := rfl
          rw [e1] at hcell
          obtain ⟨z, hz⟩ : ∃ z, Lot.lo ⟨false, a, b, c'⟩ n = z := ⟨_, rfl⟩
          obtain ⟨z2, hz2⟩ : ∃ z, Lot.hi ⟨false, a, b, c'⟩ n = z := ⟨_, rfl⟩
          rw [hz, hz2] at C2
          have HZ := Lib.hid hz
          clear hz hz2 e1
          by_cases cz : z ≤ n
          · have hr : r = true := by
              rw [← HR.out]
              exact (setB_iff xs n).2 ⟨_, List.mem_of_getElem? HX.out.1, HX.out.2.2.2 (by rw [HZ.out]; exact cz)⟩
            subst hr
            go_wp2_with fail
            refine (C2.out _).mono ?_
            rintro e w4 ⟨rfl, h4⟩
            have B4 := Lib.hid (B2.out.trans ((HB.out.mono (by omega)).trans (h4.mono (by have := HB.out.size; omega))))
            clear h4
            go_wp2_with fail
            go_ret2
            exact ⟨rfl, B4.out⟩
          · have hno : Lot.hasB ⟨false, a, b, c'⟩ n = false := by
              rw [Bool.eq_false_iff]
              intro hh
              exact cz (HZ.out ▸ HX.out.2.2.1 ((Lot.hasB_iff _ n).1 hh))
            have HF := Lib.hid (HT.out.trans hno)
            clear hno
            go_wp2_with fail
            refine (C2.out _).mono ?_
            rintro e w4 ⟨rfl, h4⟩
            have B4 := Lib.hid (HB.out.trans (h4.mono (by have := HB.out.size; omega)))
            clear h4
            go_wp2_with fail
            go_roundw
            case rel => exact ⟨k + 1, by go_num, by omega, HF.out, B4.out⟩
            case measure => show N - ((k : Int) + 1).toNat < N - (k : Int).toNat; omega
        · have C2 := Lib.hid (fun W => FT.out a b c' W (by have := HX.out.2.1; unfold Lot.ok at this; exact this))
          have e1 : Lot.val ⟨true, a, b, c'⟩ = .iface 105 (.agg #[.int .i64 a, .int .i64 b, .int .i64 c']) := rfl
          rw [e1] at hcell
          obtain ⟨z, hz⟩ : ∃ z, Lot.lo ⟨true, a, b, c'⟩ n = z := ⟨_, rfl⟩
          obtain ⟨z2, hz2⟩ : ∃ z, Lot.hi ⟨true, a, b, c'⟩ n = z := ⟨_, rfl⟩
          rw [hz, hz2] at C2
          have HZ := Lib.hid hz
          clear hz hz2 e1
          by_cases cz : z ≤ n
          · have hr : r = true := by
              rw [← HR.out]
              exact (setB_iff xs n).2 ⟨_, List.mem_of_getElem? HX.out.1, HX.out.2.2.2 (by rw [HZ.out]; exact cz)⟩
            subst hr
            go_wp2_with fail
            refine (C2.out _).mono ?_
            rintro e w4 ⟨rfl, h4⟩
            have B4 := Lib.hid (B2.out.trans ((HB.out.mono (by omega)).trans (h4.mono (by have := HB.out.size; omega))))
            clear h4
            go_wp2_with fail
            go_ret2
            exact ⟨rfl, B4.out⟩
          · have hno : Lot.hasB ⟨true, a, b, c'⟩ n = false := by
              rw [Bool.eq_false_iff]
              intro hh
              exact cz (HZ.out ▸ HX.out.2.2.1 ((Lot.hasB_iff _ n).1 hh))
            have HF := Lib.hid (HT.out.trans hno)
            clear hno
            go_wp2_with fail
            refine (C2.out _).mono ?_
            rintro e w4 ⟨rfl, h4⟩
            have B4 := Lib.hid (HB.out.trans (h4.mono (by have := HB.out.size; omega)))
            clear h4
            go_wp2_with fail
            go_roundw
            case rel => exact ⟨k + 1, by go_num, by omega, HF.out, B4.out⟩
            case measure => show N - ((k : Int) + 1).toNat < N - (k : Int).toNat; omega
      · have hk0 : (N : Int) ≤ (k : Int) := by omega
        have hr : r = false := by
          have := HNo.out
          rw [List.take_of_length_le (by omega)] at this
          rw [← HR.out]; exact this
        subst hr
        go_wp2_with fail
        go_ret2
        exact ⟨rfl, B2.out.trans (HB.out.mono (by omega))⟩
end Go.Proofs.YtlhgpeelenelbaaDoor

/- Contract of Holds, where there is an error; contracts of upTo of a span, of the closure of Last, of least at it. -/
namespace Go.Proofs.YtlhgpeelenelbaaDoor
open Go.RowKit

set_option maxHeartbeats 2000000 in
theorem holds_err (v : Value) (ts : List T3) (ss : List S2) (n c d : Int) (w : World) (h : RM w.heap.size v ts ss w) (hc : CheckIs ts ss c) (hd : AtIs c n d) (h0 : d ≠ 0) :
    Calls Tryd.prog 17 #[v, .int .i64 n] w fun e w' => e = .returned (.tuple #[.bool false, .int .i64 d]) ∧ Below w.heap.size w w' := by
  have H := Lib.hid h
  obtain ⟨A, m, ca, A', m', ca', rfl, h1, h2⟩ := h
  have C : Hid (∀ W, Below w.heap.size w W → w.heap.size ≤ W.heap.size → Calls Tryd.prog 67 #[.agg #[.slice A m ca, .slice A' m' ca'], .int .i64 n] W fun e w' => e = .returned (.int .i64 d) ∧ Below W.heap.size W w') :=
    Lib.hid fun W hb hs => checkAt_any _ ts ss n c d W (H.out.up hs hb) hc hd
  have hb0 : (d != 0) = true := by rw [bne_iff_ne]; exact h0
  clear h1 h2 hc hd h0
  have BX := Lib.hid ((Below.refl w.heap.size w).alloc (Nat.le_refl _) (.cells #[.slice A m ca, .slice A' m' ca'] 25))
  go_enter Tryd.func17, Tryd.ntmps17
  go_wp2_with fail
  refine (C.out _ BX.out (by simp)).mono ?_
  rintro e w1 ⟨rfl, hb1⟩
  have B1 := Lib.hid (BX.out.trans (hb1.mono (by simp)))
  clear hb1
  go_wp2_with fail
  go_ret2
  exact ⟨rfl, B1.out⟩
/-- What Holds returns. -/
theorem holds_any (v : Value) (ts : List T3) (ss : List S2) (n c d : Int) (w : World) (h : RM w.heap.size v ts ss w) (hc : CheckIs ts ss c) (hd : AtIs c n d) :
    Calls Tryd.prog 17 #[v, .int .i64 n] w fun e w' => e = .returned (.tuple #[.bool (decide (d = 0) && setB (lotsOf ts ss) n), .int .i64 d]) ∧ Below w.heap.size w w' := by
  by_cases h0 : d = 0
  · subst h0
    rcases hd with ⟨a, b⟩ | ⟨rfl, b, _⟩ | ⟨_, _, b⟩
    · exact absurd b.symm a
    · exact (holds_ok v ts ss n w h hc b).mono fun e w' ⟨he, hb⟩ => ⟨by rw [he]; simp, hb⟩
    · exact absurd b (by decide)
  · exact (holds_err v ts ss n c d w h hc hd h0).mono fun e w' ⟨he, hb⟩ => ⟨by rw [he]; simp [h0], hb⟩

/-- Where the run of a span up to n ends. -/
def sTo (lo hi n : Int) : Int := if n < lo then -1099511627776 else hi
def sToLo (lo n : Int) : Int := if n < lo then -1099511627776 else lo
set_option maxHeartbeats 1000000 in
theorem supTo_any (lo hi n : Int) (w : World) :
    Calls Tryd.prog 173 #[sv2 lo hi, .int .i64 n] w fun e w' => e = .returned (sv2 (sToLo lo n) (sTo lo hi n)) ∧ Below w.heap.size w w' := by
  have H1 : Hid (sToLo lo n = if n < lo then -1099511627776 else lo) := Lib.hid rfl
  have H2 : Hid (sTo lo hi n = if n < lo then -1099511627776 else hi) := Lib.hid rfl
  by_cases c : n < lo
  · go_enter Tryd.func173, Tryd.ntmps173
    go_wp2_with fail
    refine bodyPost_ret (v := sv2 (-1099511627776) (-1099511627776)) (by simp [results, Tryd.results173, go_sem]) rfl ⟨?_, ?_⟩
    · rw [H1.out, H2.out, if_pos c, if_pos c]
    · exact ((Below.refl _ _).alloc (Nat.le_refl _) _).alloc (by simp) _
  · go_enter Tryd.func173, Tryd.ntmps173
    go_wp2_with fail
    refine bodyPost_ret (v := sv2 lo hi) (by simp [results, Tryd.results173, go_sem]) rfl ⟨?_, ?_⟩
    · rw [H1.out, H2.out, if_neg (by omega), if_neg (by omega)]
    · exact ((Below.refl _ _).alloc (Nat.le_refl _) _).alloc (by simp) _
theorem m_upTo_T (p f l : Int) (w : World) : (method 292 105 (.agg #[.int .i64 p, .int .i64 f, .int .i64 l]) "drowner/turn.upTo").run Tryd.prog w = .ok (122, .agg #[.int .i64 p, .int .i64 f, .int .i64 l]) w := by kernel_rfl
theorem m_upTo_S (lo hi : Int) (w : World) : (method 292 147 (.agg #[.int .i64 lo, .int .i64 hi]) "drowner/turn.upTo").run Tryd.prog w = .ok (173, .agg #[.int .i64 lo, .int .i64 hi]) w := by kernel_rfl

/-- Where the run of a turn up to n ends. -/
def tTo (p f l n : Int) : Int := n - (n - f) % p + l - 1
theorem tTo_bd {p f l n : Int} (h : TOk p f l) (h3 : -1000000000000000 ≤ n) (h4 : n ≤ 1000000000000000) : -1000000000100000 ≤ tTo p f l n ∧ tTo p f l n ≤ 1000000000100000 := by
  obtain ⟨a1, a2, a3, a4, a5, a6⟩ := h
  have e1 : 0 ≤ (n - f) % p := Int.emod_nonneg _ (by omega)
  have e2 : (n - f) % p < p := Int.emod_lt_of_pos _ (by omega)
  unfold tTo
  omega
theorem sTo_bd {lo hi n : Int} (h : SOk lo hi) : -1099511627776 ≤ sTo lo hi n ∧ sTo lo hi n ≤ 1048576 := by
  obtain ⟨a1, a2, a3⟩ := h
  unfold sTo
  split <;> omega

set_option maxHeartbeats 1000000 in
set_option maxRecDepth 100000 in
theorem last1_T (p f l n : Int) (b : Nat) (w : World) (h : TOk p f l) (h3 : -1000000000000000 ≤ n) (h4 : n ≤ 1000000000000000) (hc : w.cell? ⟨b, 0, none⟩ = some (.int .i64 n)) (hb : b < w.heap.size) :
    Calls Tryd.prog 74 #[.iface 105 (tv p f l), .pointer (some ⟨b, 0, none⟩)] w fun e w' => e = .returned (.int .i64 (-(mn (tTo p f l n) n))) ∧ Below w.heap.size w w' := by
  have C : Hid (∀ w, Calls Tryd.prog 122 #[.agg #[.int .i64 p, .int .i64 f, .int .i64 l], .int .i64 n] w fun e w' => e = .returned (.agg #[.int .i64 (n - (n - f) % p), .int .i64 (tTo p f l n)]) ∧ Below w.heap.size w w') := Lib.hid fun w => upTo_any p f l n w h h3 h4
  obtain ⟨b1, b2⟩ := tTo_bd h h3 h4
  have HM : Hid (mn (tTo p f l n) n = if n < tTo p f l n then n else tTo p f l n) := Lib.hid rfl
  generalize tTo p f l n = z at *
  generalize n - (n - f) % p = z0 at *
  have hm := m_upTo_T p f l
  have hf1 := fld1
  by_cases c : n < z
  all_goals
    go_enter Tryd.func74, Tryd.ntmps74
    go_wp2_with fail
    go_region_held3 (fun W => W.cell? ⟨b, 0, none⟩ = some (.int .i64 n)) ((first | exact hc | exact hc4)) (first | (go_at_call 122; refine (C.out _).mono ?_; rintro e w4 ⟨rfl, h4⟩; have hc4 := (h4.cell (p := ⟨b, 0, none⟩) hb).trans hc; have B4 : Below w.heap.size w w4 := (Below.refl _ _).drew.trans h4))
    go_wp2_with fail
    go_ret
  · exact ⟨ret_int (by rw [HM.out, if_pos c]; exact IntWalk.i64_in _ ⟨by omega, by omega⟩), B4⟩
  · exact ⟨ret_int (by rw [HM.out, if_neg (by omega)]; exact IntWalk.i64_in _ ⟨by omega, by omega⟩), B4⟩

set_option maxHeartbeats 1000000 in
set_option maxRecDepth 100000 in
theorem last1_S (lo hi n : Int) (b : Nat) (w : World) (h : SOk lo hi) (h3 : -1000000000000000 ≤ n) (h4 : n ≤ 1000000000000000) (hc : w.cell? ⟨b, 0, none⟩ = some (.int .i64 n)) (hb : b < w.heap.size) :
    Calls Tryd.prog 74 #[.iface 147 (sv2 lo hi), .pointer (some ⟨b, 0, none⟩)] w fun e w' => e = .returned (.int .i64 (-(mn (sTo lo hi n) n))) ∧ Below w.heap.size w w' := by
  have C : Hid (∀ w, Calls Tryd.prog 173 #[.agg #[.int .i64 lo, .int .i64 hi], .int .i64 n] w fun e w' => e = .returned (.agg #[.int .i64 (sToLo lo n), .int .i64 (sTo lo hi n)]) ∧ Below w.heap.size w w') := Lib.hid fun w => supTo_any lo hi n w
  obtain ⟨b1, b2⟩ := sTo_bd (n := n) h
  have HM : Hid (mn (sTo lo hi n) n = if n < sTo lo hi n then n else sTo lo hi n) := Lib.hid rfl
  generalize sTo lo hi n = z at *
  have hm := m_upTo_S lo hi
  have hf1 := fld1
  by_cases c : n < z
  all_goals
    go_enter Tryd.func74, Tryd.ntmps74
    go_wp2_with fail
    go_region_held3 (fun W => W.cell? ⟨b, 0, none⟩ = some (.int .i64 n)) ((first | exact hc | exact hc4)) (first | (go_at_call 173; refine (C.out _).mono ?_; rintro e w4 ⟨rfl, h4⟩; have hc4 := (h4.cell (p := ⟨b, 0, none⟩) hb).trans hc; have B4 : Below w.heap.size w w4 := (Below.refl _ _).drew.trans h4))
    go_wp2_with fail
    go_ret
  · exact ⟨ret_int (by rw [HM.out, if_pos c]; exact IntWalk.i64_in _ ⟨by omega, by omega⟩), B4⟩
  · exact ⟨ret_int (by rw [HM.out, if_neg (by omega)]; exact IntWalk.i64_in _ ⟨by omega, by omega⟩), B4⟩

set_option maxHeartbeats 2000000 in
set_option maxRecDepth 100000 in
theorem leastLast_any (cap v : Value) (base n : Nat) (xs : List Value) (ns : List Int) (w : World) (hn : ns.length = n) (hx : xs.length = n) (hrow : w.ownsRow base 96 1 v n xs) (hmax : n ≤ 100)
    (hF : ∀ (k : Nat) (x : Value) (m : Int) (W : World), xs[k]? = some x → ns[k]? = some m → Below w.heap.size w W → Calls Tryd.prog 74 #[x, cap] W fun e w' => e = .returned (.int .i64 m) ∧ Below W.heap.size W w') :
    Calls Tryd.prog 71 #[v, .func (.func 74) #[] #[cap]] w fun e w' => e = .returned (.int .i64 (ns.foldl mn 1099511627776)) ∧ Below w.heap.size w w' := by
  have HF := Lib.hid hF
  have HR := Lib.hid hrow
  clear hF
  rcases hrow.2 with ⟨rfl, h0⟩ | ⟨g, c, cur, rfl, hg, hblk, hnc, hcm, hcs, htk⟩
  · subst h0
    clear hrow
    obtain rfl : ns = [] := List.length_eq_zero_iff.1 hn
    go_enter Tryd.func71, Tryd.ntmps71
    go_wp2_with fail
    refine wp_loop_rounds 1 ?_
    rw [rounds_succ]
    go_wp2_with fail
    go_ret
    exact ⟨rfl, Below.refl _ _⟩
  · have hlt : g < w.heap.size := by
      rcases Nat.lt_or_ge g w.heap.size with h | h
      · exact h
      · rw [Array.getElem?_eq_none h] at hblk; cases hblk
    have HC := Lib.hid fun j hj => World.ownsRow.cellAt HR.out j hj
    clear hrow hblk hcs htk
    go_enter Tryd.func71, Tryd.ntmps71
    go_wp2_with fail
    go_loopw [5, 10] (fun u v wr => ∃ k : Nat, v = .int .i64 k ∧ k ≤ n ∧ u = .int .i64 ((ns.take k).foldl mn 1099511627776) ∧ Below w.heap.size w wr) (fun _ v _ => n - (intOf v).toNat)
    case atStart => exact ⟨0, rfl, by omega, rfl, Below.refl _ _⟩
    case round =>
      obtain ⟨k, rfl, hk, rfl, hB⟩ := hrel
      have HB := Lib.hid hB
      clear hB
      by_cases hkn : k < n
      · obtain ⟨x, hxk⟩ : ∃ x, xs[k]? = some x := ⟨_, List.getElem?_eq_getElem (by omega)⟩
        obtain ⟨m, hmk⟩ : ∃ m, ns[k]? = some m := ⟨_, List.getElem?_eq_getElem (by omega)⟩
        have hk0 : (k : Int) < (n : Int) := by omega
        have hcell : wr.cell? ⟨g, k, none⟩ = some x := (HB.out.cell (p := ⟨g, k, none⟩) hlt).trans ((HC.out k (by omega)).trans hxk)
        have C := Lib.hid fun W h => HF.out k x m W hxk hmk h
        have HT : Hid ((ns.take (k + 1)).foldl mn 1099511627776 = mn ((ns.take k).foldl mn 1099511627776) m) := Lib.hid (by
          obtain ⟨h1, rfl⟩ := List.getElem?_eq_some_iff.1 hmk
          rw [List.take_succ_eq_append_getElem h1, List.foldl_append]; rfl)
        generalize (ns.take k).foldl mn 1099511627776 = acc at *
        clear hxk hmk
        go_wp2_with fail
        refine (C.out _ HB.out).mono ?_
        rintro e w4 ⟨rfl, h4⟩
        have B4 := Lib.hid (HB.out.trans (h4.mono (by have := HB.out.size; omega)))
        clear h4
        by_cases c' : m < acc
        all_goals
          go_wp2_with fail
          go_roundw
        · exact ⟨k + 1, by go_num, by omega, by rw [HT.out, mn, if_pos c'], B4.out⟩
        · show n - ((k : Int) + 1).toNat < n - (k : Int).toNat; omega
        · exact ⟨k + 1, by go_num, by omega, by rw [HT.out, mn, if_neg (by omega)], B4.out⟩
        · show n - ((k : Int) + 1).toNat < n - (k : Int).toNat; omega
      · have hk0 : (n : Int) ≤ (k : Int) := by omega
        have HE : Hid ((ns.take k).foldl mn 1099511627776 = ns.foldl mn 1099511627776) := Lib.hid (by rw [List.take_of_length_le (by omega)])
        generalize (ns.take k).foldl mn 1099511627776 = acc at *
        go_wp2_with fail
        go_ret
        exact ⟨ret_int HE.out, HB.out⟩
end Go.Proofs.YtlhgpeelenelbaaDoor

/- Contract of Last. -/
namespace Go.Proofs.YtlhgpeelenelbaaDoor
open Go.RowKit

/-- The numbers of which Last takes the least. -/
def lastNs (ts : List T3) (ss : List S2) (n : Int) : List Int := ts.map (fun t => -(mn (tTo t.1 t.2.1 t.2.2 n) n)) ++ ss.map (fun s => -(mn (sTo s.1 s.2 n) n))
def lastM (ts : List T3) (ss : List S2) (n : Int) : Int := (lastNs ts ss n).foldl mn 1099511627776
/-- What Last returns. -/
def LastIs (ts : List T3) (ss : List S2) (n d r c : Int) : Prop :=
  (d ≠ 0 ∧ r = 0 ∧ c = d) ∨ (d = 0 ∧ lastM ts ss n ≤ 0 ∧ r = -lastM ts ss n ∧ c = 0) ∨ (d = 0 ∧ 0 < lastM ts ss n ∧ r = 0 ∧ c = 5)
theorem foldl_mn_ge : ∀ (l : List Int) (a b : Int), b ≤ a → (∀ x ∈ l, b ≤ x) → b ≤ l.foldl mn a
  | [], _, _, h, _ => h
  | x :: l, a, b, h, hx => by
    refine foldl_mn_ge l (mn a x) b ?_ fun y hy => hx y (List.mem_cons_of_mem _ hy)
    have := hx x (List.mem_cons_self ..)
    unfold mn; split <;> omega
theorem lastM_bd {ts : List T3} {ss : List S2} {n : Int} (hn : MOk n) : -1048576 ≤ lastM ts ss n ∧ lastM ts ss n ≤ 1099511627776 := by
  refine ⟨foldl_mn_ge _ _ _ (by omega) fun x hx => ?_, (foldl_mn_le _ _).1⟩
  obtain ⟨n0, n1⟩ := hn
  have hm : ∀ a, mn a n ≤ n := fun a => by unfold mn; split <;> omega
  rcases List.mem_append.1 hx with hx | hx
  · obtain ⟨t, _, rfl⟩ := List.mem_map.1 hx; have := hm (tTo t.1 t.2.1 t.2.2 n); omega
  · obtain ⟨s, _, rfl⟩ := List.mem_map.1 hx; have := hm (sTo s.1 s.2 n); omega

theorem last_elem {ts : List T3} {ss : List S2} {n : Int} (h : AllOk ts ss) (hn : MOk n) {b : Nat} (k : Nat) (x : Value) (m : Int) (W : World) (hx : (lotsF ts ss)[k]? = some x) (hm : (lastNs ts ss n)[k]? = some m)
    (hc : W.cell? ⟨b, 0, none⟩ = some (.int .i64 n)) (hb : b < W.heap.size) :
    Calls Tryd.prog 74 #[x, .pointer (some ⟨b, 0, none⟩)] W fun e w' => e = .returned (.int .i64 m) ∧ Below W.heap.size W w' := by
  obtain ⟨n0, n1⟩ := hn
  unfold lotsF at hx
  unfold lastNs at hm
  by_cases hk : k < ts.length
  · rw [List.getElem?_append_left (by simpa using hk), List.getElem?_map, List.getElem?_eq_getElem hk] at hx hm
    simp only [Option.map_some, Option.some.injEq] at hx hm
    subst hx hm
    exact last1_T _ _ _ n b W (h.1 _ (List.getElem_mem hk)) (by omega) (by omega) hc hb
  · rw [List.getElem?_append_right (by simp; omega), List.getElem?_map] at hx hm
    simp only [List.length_map] at hx hm
    cases hs : ss[k - ts.length]? with
    | none => rw [hs] at hx; cases hx
    | some s =>
      rw [hs] at hx hm
      simp only [Option.map_some, Option.some.injEq] at hx hm
      subst hx hm
      exact last1_S s.1 s.2 n b W (h.2 _ (List.mem_of_getElem? hs)) (by omega) (by omega) hc hb

set_option maxHeartbeats 2000000 in
set_option maxRecDepth 100000 in
theorem last_any (v : Value) (ts : List T3) (ss : List S2) (n c d r q : Int) (w : World) (h : RM w.heap.size v ts ss w) (hc : CheckIs ts ss c) (hd : AtIs c n d) (hr : LastIs ts ss n d r q) :
    Calls Tryd.prog 21 #[v, .int .i64 n] w fun e w' => e = .returned (.tuple #[.int .i64 r, .int .i64 q]) ∧ Below w.heap.size w w' := by
  have H := Lib.hid h
  obtain ⟨A, m, ca, A', m', ca', rfl, h1, h2⟩ := h
  have C : Hid (∀ W, Below w.heap.size w W → w.heap.size ≤ W.heap.size → Calls Tryd.prog 67 #[.agg #[.slice A m ca, .slice A' m' ca'], .int .i64 n] W fun e w' => e = .returned (.int .i64 d) ∧ Below W.heap.size W w') :=
    Lib.hid fun W hb hs => checkAt_any _ ts ss n c d W (H.out.up hs hb) hc hd
  have L : Hid (∀ W, Below w.heap.size w W → w.heap.size ≤ W.heap.size → ts.length ≤ 24 → ss.length ≤ 40 → Calls Tryd.prog 68 #[.agg #[.slice A m ca, .slice A' m' ca']] W (LotsPost ts ss W)) :=
    Lib.hid fun W hb hs k1 k2 => lots_any _ _ ts ss W (h1.up hs hb) (h2.up hs hb) k1 k2
  clear h1 h2
  have BX := Lib.hid (below_two w (.cells #[.slice A m ca, .slice A' m' ca'] 25) (.cells #[.int .i64 n] 3))
  by_cases h0 : d = 0
  · subst h0
    have hok : ts.length ≤ 24 ∧ ss.length ≤ 40 ∧ AllOk ts ss ∧ MOk n := by
      rcases hd with ⟨a, b⟩ | ⟨a, b, _⟩ | ⟨a, b, e⟩
      · omega
      · rcases hc with ⟨_, e⟩ | ⟨e1, e2, e3, _⟩ | ⟨_, _, _, e⟩
        · omega
        · exact ⟨e1, e2, e3, b⟩
        · omega
      · omega
    have OK := Lib.hid hok
    have hr' : (lastM ts ss n ≤ 0 ∧ r = -lastM ts ss n ∧ q = 0) ∨ (0 < lastM ts ss n ∧ r = 0 ∧ q = 5) := by
      rcases hr with ⟨a, _⟩ | ⟨_, a⟩ | ⟨_, a⟩
      · exact absurd rfl a
      · exact .inl a
      · exact .inr a
    clear hr hd hc hok
    have E := Lib.hid fun (b : Nat) k x m W => @last_elem ts ss n OK.out.2.2.1 OK.out.2.2.2 b k x m W
    have HM : Hid ((lastNs ts ss n).foldl mn 1099511627776 = lastM ts ss n) := Lib.hid rfl
    obtain ⟨bd0, bd1⟩ := lastM_bd (ts := ts) (ss := ss) OK.out.2.2.2
    generalize lastM ts ss n = M at *
    go_enter Tryd.func21, Tryd.ntmps21
    go_wp2_with fail
    refine (C.out _ BX.out BX.out.size).mono ?_
    rintro e w1 ⟨rfl, hb1⟩
    obtain ⟨hcl, hfz⟩ := bcell hb1
    have hz1 : w.heap.size + 1 < w1.heap.size := by have := hb1.size; simp at this; omega
    have hz0 : w.heap.size < w1.heap.size := by omega
    have q0 : w1.cell? ⟨w.heap.size, 0, none⟩ = some (.slice A m ca) := by rw [hcl _ _ (by simp [go_sem])]; simp [go_sem]
    have q1 : w1.cell? ⟨w.heap.size, 1, none⟩ = some (.slice A' m' ca') := by rw [hcl _ _ (by simp [go_sem])]; simp [go_sem]
    have q2 : w1.cell? ⟨w.heap.size + 1, 0, none⟩ = some (.int .i64 n) := by rw [hcl _ _ (by simp [go_sem])]; simp [go_sem]
    have Q2 := Lib.hid q2
    have B1 := Lib.hid (BX.out.trans (hb1.mono (by simp; omega)))
    clear hb1 hcl hfz
    go_wp2_with fail
    refine (L.out _ B1.out B1.out.size OK.out.1 OK.out.2.1).mono ?_
    rintro e w2 ⟨lv, rfl, hown, hb2⟩
    have HO := Lib.hid hown
    have B2 := Lib.hid hb2
    have z2 := hb2.size
    clear hown hb2 q0 q1 q2
    go_wp2_with fail
    have z3 : w.heap.size + 1 < w2.heap.size := by omega
    refine (leastLast_any (.pointer (some ⟨w.heap.size + 1, 0, none⟩)) lv (w1.heap.size + 1) (ts.length + ss.length) (lotsF ts ss) (lastNs ts ss n) w2 (by simp [lastNs]) (by simp [lotsF]) HO.out (by have := OK.out.1; have := OK.out.2.1; omega) (fun k x m2 W hx hm hB => E.out _ k x m2 W hx hm ((hB.cell (p := ⟨w.heap.size + 1, 0, none⟩) z3).trans ((B2.out.cell (p := ⟨w.heap.size + 1, 0, none⟩) hz1).trans Q2.out)) (by have := hB.size; omega))).mono ?_
    rintro e w3 ⟨rfl, hb3⟩
    rw [HM.out]
    have B3 := Lib.hid (B1.out.trans ((B2.out.mono (by omega)).trans (hb3.mono (by omega))))
    clear hb3
    rcases hr' with ⟨k1, rfl, rfl⟩ | ⟨k1, rfl, rfl⟩
    · go_wp2_with fail
      go_ret2
      exact ⟨rfl, B3.out⟩
    · go_wp2_with fail
      go_ret2
      exact ⟨rfl, B3.out⟩
  · have hr' : r = 0 ∧ q = d := by
      rcases hr with ⟨_, a, b⟩ | ⟨a, _⟩ | ⟨a, _⟩
      · exact ⟨a, b⟩
      · exact absurd a h0
      · exact absurd a h0
    obtain ⟨rfl, rfl⟩ := hr'
    have hb0 : (q != 0) = true := by rw [bne_iff_ne]; exact h0
    clear h0 hr hd hc L
    go_enter Tryd.func21, Tryd.ntmps21
    go_wp2_with fail
    refine (C.out _ BX.out BX.out.size).mono ?_
    rintro e w1 ⟨rfl, hb1⟩
    have B1 := Lib.hid (BX.out.trans (hb1.mono (by simp; omega)))
    clear hb1
    go_wp2_with fail
    go_ret2
    exact ⟨rfl, B1.out⟩
end Go.Proofs.YtlhgpeelenelbaaDoor

/- Contracts of the specification's Check and asked. -/
namespace Go.Proofs.YtlhgpeelenelbaaDoor
open Go.RowKit

def sokB (lo hi : Int) : Bool := decide (0 ≤ lo ∧ lo ≤ hi ∧ hi ≤ 1048576)
theorem sokB_true {lo hi : Int} : sokB lo hi = true ↔ SOk lo hi := by simp [sokB, SOk]
set_option maxHeartbeats 2000000 in
theorem rspan_any (lo hi : Int) (w : World) : Calls Tryd.prog 37 #[sv2 lo hi] w fun e w' => e = .returned (.bool (sokB lo hi)) ∧ Below w.heap.size w w' := by
  by_cases c1 : 0 ≤ lo
  · by_cases c2 : lo ≤ hi
    · by_cases c3 : hi ≤ 1048576
      · rw [show sokB lo hi = true by unfold sokB; simp; omega]
        go_enter Tryd.func37, Tryd.ntmps37
        go_wp2_with fail
        go_ret
        exact ⟨rfl, (Below.refl _ _).alloc (Nat.le_refl _) _⟩
      · rw [show sokB lo hi = false by unfold sokB; simp; omega]
        go_enter Tryd.func37, Tryd.ntmps37
        go_wp2_with fail
        go_ret
        exact ⟨rfl, (Below.refl _ _).alloc (Nat.le_refl _) _⟩
    · rw [show sokB lo hi = false by unfold sokB; simp; omega]
      go_enter Tryd.func37, Tryd.ntmps37
      go_wp2_with fail
      go_ret
      exact ⟨rfl, (Below.refl _ _).alloc (Nat.le_refl _) _⟩
  · rw [show sokB lo hi = false by unfold sokB; simp; omega]
    go_enter Tryd.func37, Tryd.ntmps37
    go_wp2_with fail
    go_ret
    exact ⟨rfl, (Below.refl _ _).alloc (Nat.le_refl _) _⟩

set_option maxHeartbeats 2000000 in
set_option maxRecDepth 100000 in
theorem rcheck_any (vt vs : Value) (ts : List T3) (ss : List S2) (c : Int) (w : World) (ht : RT w.heap.size vt ts w) (hs : RS w.heap.size vs ss w) (hc : CheckIs ts ss c) :
    Calls Tryd.prog 26 #[.agg #[vt, vs]] w fun e w' => e = .returned (.int .i64 c) ∧ Below w.heap.size w w' := by
  obtain ⟨A, ca, rfl, n1, hx⟩ := ht
  obtain ⟨A', ca', rfl, n2, hy⟩ := hs
  have HX := Lib.hid hx
  have HX' := Lib.hid hy
  clear hx hy
  rcases checkIs_split hc with ⟨h, rfl⟩ | ⟨h1, h2, hy, hn⟩
  · clear hc
    by_cases k : 24 < ts.length
    · clear h
      have k' : (24 : Int) < (ts.length : Int) := by omega
      go_enter Tryd.func26, Tryd.ntmps26
      go_wp2_with fail
      go_ret
      exact ⟨rfl, (Below.refl _ _).alloc (Nat.le_refl _) _⟩
    · have k1 : 40 < ss.length := by omega
      have k' : (40 : Int) < (ss.length : Int) := by omega
      have k'' : (ts.length : Int) ≤ 24 := by omega
      clear h
      go_enter Tryd.func26, Tryd.ntmps26
      go_wp2_with fail
      go_ret
      exact ⟨rfl, (Below.refl _ _).alloc (Nat.le_refl _) _⟩
  · have k' : (ts.length : Int) ≤ 24 := by omega
    have k'' : (ss.length : Int) ≤ 40 := by omega
    have HY := Lib.hid hy
    have HN := Lib.hid hn
    have hd1 : decide ((24 : Int) < (ts.length : Int)) = false := by simp; omega
    have hd2 : decide ((40 : Int) < (ss.length : Int)) = false := by simp; omega
    clear hc hy hn
    go_enter Tryd.func26, Tryd.ntmps26
    go_wp2_with fail
    clear hd1 hd2
    go_loopw [3] (fun v wr => ∃ k : Nat, v = .int .i64 k ∧ k ≤ ts.length ∧ (∀ j t, j < k → ts[j]? = some t → TOk t.1 t.2.1 t.2.2) ∧ wr.cell? ⟨w.heap.size, 0, none⟩ = some (.slice A ts.length ca) ∧ wr.cell? ⟨w.heap.size, 1, none⟩ = some (.slice A' ss.length ca') ∧ w.heap.size < wr.heap.size ∧ Below w.heap.size w wr) (fun v _ => ts.length - (intOf v).toNat)
    case atStart => exact ⟨0, rfl, by omega, fun j t hj => by omega, by simp [go_sem], by simp [go_sem], by simp, (Below.refl _ _).alloc (Nat.le_refl _) _⟩
    case round =>
      obtain ⟨k, rfl, hk, hj, hcell0, hcell, hlt, hB⟩ := hrel
      have Hj := Lib.hid hj
      have HB := Lib.hid hB
      have hlt1 : ∀ W, Below wr.heap.size wr W → W.cell? ⟨w.heap.size, 0, none⟩ = some (.slice A ts.length ca) ∧ W.cell? ⟨w.heap.size, 1, none⟩ = some (.slice A' ss.length ca') := fun W hb => ⟨(hb.cell (p := ⟨w.heap.size, 0, none⟩) hlt).trans hcell0, (hb.cell (p := ⟨w.heap.size, 1, none⟩) hlt).trans hcell⟩
      have HL := Lib.hid hlt1
      clear hj hB hlt1
      by_cases hkl : k < ts.length
      · obtain ⟨b, o, eA, hbB, hcs⟩ := HX.out (by omega)
        subst eA
        have hk0 : (k : Int) < (ts.length : Int) := by omega
        obtain ⟨⟨p, f, l⟩, ht⟩ : ∃ t, ts[k]? = some t := ⟨_, List.getElem?_eq_getElem hkl⟩
        obtain ⟨c0, c1, c2'⟩ := hcs k p f l ht
        have d0 := (HB.out.cell (p := ⟨b, o + k * 3, none⟩) hbB).trans c0
        have d1 := (HB.out.cell (p := ⟨b, o + k * 3 + 1, none⟩) hbB).trans c1
        have d2 := (HB.out.cell (p := ⟨b, o + k * 3 + 2, none⟩) hbB).trans c2'
        have HT := Lib.hid ht
        clear c0 c1 c2' ht hcs
        by_cases hok : TOk p f l
        · have C := Lib.hid fun w => valid_ok p f l w hok
          have HO := Lib.hid hok
          clear hok
          go_wp2_with fail
          refine (C.out _).mono ?_
          rintro e w4 ⟨rfl, h4⟩
          have B4 := Lib.hid h4
          have z4 : wr.heap.size ≤ w4.heap.size := h4.size
          clear h4
          go_wp2_with fail
          go_roundw
          case rel =>
            refine ⟨k + 1, by go_num, by omega, ?_, (HL.out _ B4.out).1, (HL.out _ B4.out).2, by omega, HB.out.trans (B4.out.mono (by omega))⟩
            intro j t hj ht
            by_cases e : j = k
            · subst e
              rw [HT.out] at ht
              injection ht with ht
              subst ht
              exact HO.out
            · exact Hj.out j t (by omega) ht
          case measure => show ts.length - ((k : Int) + 1).toNat < ts.length - (k : Int).toNat; omega
        · have C := Lib.hid fun w => valid_bad p f l w hok
          have hc1 : c = 1 := HN.out (fun h => hok (h.1 _ (List.mem_of_getElem? HT.out)))
          subst hc1
          clear hok
          go_wp2_with fail
          refine (C.out _).mono ?_
          rintro e w4 ⟨rfl, h4⟩
          have B4 := Lib.hid h4
          clear h4
          go_wp2_with fail
          go_ret
          exact ⟨rfl, HB.out.trans (B4.out.mono (by omega))⟩
      · have hk0 : (ts.length : Int) ≤ (k : Int) := by omega
        have hz := HB.out.size
        have HA : Hid (∀ t ∈ ts, TOk t.1 t.2.1 t.2.2) := Lib.hid (by
          intro t ht
          obtain ⟨j, hj⟩ := List.mem_iff_getElem?.1 ht
          exact Hj.out j t (by have := (List.getElem?_eq_some_iff.1 hj).1; omega) hj)
        go_wp2_with fail
        go_loopw [5] (fun v wr => ∃ k : Nat, v = .int .i64 k ∧ k ≤ ss.length ∧ (∀ j t, j < k → ss[j]? = some t → SOk t.1 t.2) ∧ wr.cell? ⟨w.heap.size, 0, none⟩ = some (.slice A ts.length ca) ∧ wr.cell? ⟨w.heap.size, 1, none⟩ = some (.slice A' ss.length ca') ∧ w.heap.size < wr.heap.size ∧ Below w.heap.size w wr) (fun v _ => ss.length - (intOf v).toNat)
        case atStart => exact ⟨0, rfl, by omega, fun j t hj => by omega, hcell0, hcell, hlt, HB.out⟩
        case round =>
          obtain ⟨k2, rfl, hk2, hj2, hcellb, hcellc, hlt2, hB2⟩ := hrel
          have Hj2 := Lib.hid hj2
          have HB2 := Lib.hid hB2
          have hlt3 : ∀ W, Below wr.heap.size wr W → W.cell? ⟨w.heap.size, 0, none⟩ = some (.slice A ts.length ca) ∧ W.cell? ⟨w.heap.size, 1, none⟩ = some (.slice A' ss.length ca') := fun W hb => ⟨(hb.cell (p := ⟨w.heap.size, 0, none⟩) hlt2).trans hcellb, (hb.cell (p := ⟨w.heap.size, 1, none⟩) hlt2).trans hcellc⟩
          have HL2 := Lib.hid hlt3
          clear hj2 hB2 hlt3
          by_cases hkl2 : k2 < ss.length
          · obtain ⟨b2, o2, eA2, hbB2, hcs2⟩ := HX'.out (by omega)
            subst eA2
            have hk3 : (k2 : Int) < (ss.length : Int) := by omega
            obtain ⟨⟨lo, hi⟩, ht2⟩ : ∃ t, ss[k2]? = some t := ⟨_, List.getElem?_eq_getElem hkl2⟩
            obtain ⟨c0, c1⟩ := hcs2 k2 lo hi ht2
            have d0 := (HB2.out.cell (p := ⟨b2, o2 + k2 * 2, none⟩) hbB2).trans c0
            have d1 := (HB2.out.cell (p := ⟨b2, o2 + k2 * 2 + 1, none⟩) hbB2).trans c1
            have HT2 := Lib.hid ht2
            have hz2 := HB2.out.size
            have C := Lib.hid fun w => rspan_any lo hi w
            clear c0 c1 ht2 hcs2
            by_cases hok : SOk lo hi
            · rw [sokB_true.2 hok] at C
              have HO := Lib.hid hok
              clear hok
              go_wp2_with fail
              refine (C.out _).mono ?_
              rintro e w4 ⟨rfl, h4⟩
              have B4 := Lib.hid h4
              have z4 := h4.size
              clear h4
              go_wp2_with fail
              go_roundw
              case rel =>
                refine ⟨k2 + 1, by go_num, by omega, ?_, (HL2.out _ B4.out).1, (HL2.out _ B4.out).2, by omega, HB2.out.trans (B4.out.mono (by omega))⟩
                intro j t hj ht
                by_cases e : j = k2
                · subst e
                  rw [HT2.out] at ht
                  injection ht with ht
                  subst ht
                  exact HO.out
                · exact Hj2.out j t (by omega) ht
              case measure => show ss.length - ((k2 : Int) + 1).toNat < ss.length - (k2 : Int).toNat; omega
            · rw [show sokB lo hi = false by rw [← Bool.not_eq_true, sokB_true]; exact hok] at C
              have hc1 : c = 1 := HN.out (fun h => hok (h.2 _ (List.mem_of_getElem? HT2.out)))
              subst hc1
              clear hok
              go_wp2_with fail
              refine (C.out _).mono ?_
              rintro e w4 ⟨rfl, h4⟩
              have B4 := Lib.hid h4
              clear h4
              go_wp2_with fail
              go_ret
              exact ⟨rfl, HB2.out.trans (B4.out.mono (by omega))⟩
          · have hk3 : (ss.length : Int) ≤ (k2 : Int) := by omega
            have hc0 : c = 0 := HY.out ⟨HA.out, by
              intro t ht
              obtain ⟨j, hj⟩ := List.mem_iff_getElem?.1 ht
              exact Hj2.out j t (by have := (List.getElem?_eq_some_iff.1 hj).1; omega) hj⟩
            subst hc0
            go_wp2_with fail
            go_ret
            exact ⟨rfl, HB2.out⟩
end Go.Proofs.YtlhgpeelenelbaaDoor

/- Contract of the specification's Has. -/
namespace Go.Proofs.YtlhgpeelenelbaaDoor
open Go.RowKit

theorem setB_append (a b : List Lot) (n : Int) : setB (a ++ b) n = (setB a n || setB b n) := by simp [setB, List.any_append]
theorem setB_takeT {ts : List T3} {k : Nat} {p f l : Int} (h : ts[k]? = some (p, f, l)) (n : Int) : setB ((ts.take (k + 1)).map lotOfT) n = (setB ((ts.take k).map lotOfT) n || decide ((n - f) % p < l)) := by
  obtain ⟨h1, h2⟩ := List.getElem?_eq_some_iff.1 h
  rw [List.take_succ_eq_append_getElem h1, List.map_append, setB_append, h2]
  simp [setB, Lot.hasB, lotOfT]
theorem setB_takeS {ss : List S2} {k : Nat} {a b : Int} (h : ss[k]? = some (a, b)) (n : Int) : setB ((ss.take (k + 1)).map lotOfS) n = (setB ((ss.take k).map lotOfS) n || decide (a ≤ n ∧ n ≤ b)) := by
  obtain ⟨h1, h2⟩ := List.getElem?_eq_some_iff.1 h
  rw [List.take_succ_eq_append_getElem h1, List.map_append, setB_append, h2]
  simp [setB, Lot.hasB, lotOfS]
theorem setB_mono {a b : List Lot} (h : ∀ x ∈ a, x ∈ b) {n : Int} (ha : setB a n = true) : setB b n = true := by
  obtain ⟨x, h1, h2⟩ := (setB_iff a n).1 ha
  exact (setB_iff b n).2 ⟨x, h x h1, h2⟩

set_option maxHeartbeats 2000000 in
set_option maxRecDepth 100000 in
theorem rhas_any (v : Value) (ts : List T3) (ss : List S2) (n : Int) (w : World) (h : RM w.heap.size v ts ss w) (hok : AllOk ts ss) (l1 : ts.length ≤ 24) (l2 : ss.length ≤ 40) (hn0 : -1000000000 ≤ n) (hn1 : n ≤ 1000000000) :
    Calls Tryd.prog 70 #[v, .int .i64 n] w fun e w' => e = .returned (.bool (setB (lotsOf ts ss) n)) ∧ Below w.heap.size w w' := by
  obtain ⟨A0, m0, ca, A0', m0', ca', rfl, ht, hs⟩ := h
  obtain ⟨A, ca, e1, n1, hx⟩ := ht
  obtain ⟨A', ca', e2, n2, hy⟩ := hs
  injection e1 with q1 q2 q3
  injection e2 with q4 q5 q6
  subst q1 q2 q3 q4 q5 q6
  have HX := Lib.hid hx
  have HX' := Lib.hid hy
  have OK := Lib.hid hok
  clear hx hy hok
  obtain ⟨r, hr⟩ : ∃ r, setB (lotsOf ts ss) n = r := ⟨_, rfl⟩
  rw [hr]
  have HR := Lib.hid hr
  clear hr
  go_enter Tryd.func70, Tryd.ntmps70
  go_wp2_with fail
  go_loopw [5] (fun v wr => ∃ k : Nat, v = .int .i64 k ∧ k ≤ ts.length ∧ setB ((ts.take k).map lotOfT) n = false ∧ wr.cell? ⟨w.heap.size, 0, none⟩ = some (.slice A0 ts.length ca) ∧ wr.cell? ⟨w.heap.size, 1, none⟩ = some (.slice A0' ss.length ca') ∧ w.heap.size < wr.heap.size ∧ Below w.heap.size w wr) (fun v _ => ts.length - (intOf v).toNat)
  case atStart => exact ⟨0, rfl, by omega, rfl, by simp [go_sem], by simp [go_sem], by simp, (Below.refl _ _).alloc (Nat.le_refl _) _⟩
  case round =>
    obtain ⟨k, rfl, hk, hj, hcell0, hcell, hlt, hB⟩ := hrel
    have Hj := Lib.hid hj
    have HB := Lib.hid hB
    have hlt1 : ∀ W, Below wr.heap.size wr W → W.cell? ⟨w.heap.size, 0, none⟩ = some (.slice A0 ts.length ca) ∧ W.cell? ⟨w.heap.size, 1, none⟩ = some (.slice A0' ss.length ca') := fun W hb => ⟨(hb.cell (p := ⟨w.heap.size, 0, none⟩) hlt).trans hcell0, (hb.cell (p := ⟨w.heap.size, 1, none⟩) hlt).trans hcell⟩
    have HL := Lib.hid hlt1
    clear hj hB hlt1
    by_cases hkl : k < ts.length
    · obtain ⟨b, o, eA, hbB, hcs⟩ := HX.out (by omega)
      subst eA
      have hk0 : (k : Int) < (ts.length : Int) := by omega
      obtain ⟨⟨p, f, l⟩, ht⟩ : ∃ t, ts[k]? = some t := ⟨_, List.getElem?_eq_getElem hkl⟩
      obtain ⟨c0, c1, c2'⟩ := hcs k p f l ht
      have d0 := (HB.out.cell (p := ⟨b, o + k * 3, none⟩) hbB).trans c0
      have d1 := (HB.out.cell (p := ⟨b, o + k * 3 + 1, none⟩) hbB).trans c1
      have d2 := (HB.out.cell (p := ⟨b, o + k * 3 + 2, none⟩) hbB).trans c2'
      have C := Lib.hid fun w => rinTurn_any p f l n w (OK.out.1 _ (List.mem_of_getElem? ht)) (by omega) (by omega)
      have HS := Lib.hid (setB_takeT ht n)
      have HM := Lib.hid (List.mem_of_getElem? ht)
      clear c0 c1 c2' ht hcs
      by_cases hin : (n - f) % p < l
      · rw [show itB p f l n = true by unfold itB; simp [hin]] at C
        have hr1 : r = true := by
          rw [← HR.out]
          refine setB_mono (a := (ts.take (k + 1)).map lotOfT) (fun x hx => ?_) (by rw [HS.out]; simp [hin])
          obtain ⟨t, h1, rfl⟩ := List.mem_map.1 hx
          exact List.mem_append_left _ (List.mem_map_of_mem (List.mem_of_mem_take h1))
        subst hr1
        clear hin
        go_wp2_with fail
        refine (C.out _).mono ?_
        rintro e w4 ⟨rfl, h4⟩
        have B4 := Lib.hid (HB.out.trans (h4.mono (by omega)))
        clear h4
        go_wp2_with fail
        go_ret
        exact ⟨rfl, B4.out⟩
      · rw [show itB p f l n = false by unfold itB; simp; omega] at C
        have HF : Hid (setB ((ts.take (k + 1)).map lotOfT) n = false) := Lib.hid (by rw [HS.out, Hj.out]; simp; omega)
        clear hin
        go_wp2_with fail
        refine (C.out _).mono ?_
        rintro e w4 ⟨rfl, h4⟩
        have B4 := Lib.hid h4
        have z4 := h4.size
        clear h4
        go_wp2_with fail
        go_roundw
        case rel => exact ⟨k + 1, by go_num, by omega, HF.out, (HL.out _ B4.out).1, (HL.out _ B4.out).2, by omega, HB.out.trans (B4.out.mono (by omega))⟩
        case measure => show ts.length - ((k : Int) + 1).toNat < ts.length - (k : Int).toNat; omega
    · have hk0 : (ts.length : Int) ≤ (k : Int) := by omega
      have HA : Hid (setB (ts.map lotOfT) n = false) := Lib.hid (by have := Hj.out; rwa [List.take_of_length_le (by omega)] at this)
      go_wp2_with fail
      go_loopw [7] (fun v wr => ∃ k : Nat, v = .int .i64 k ∧ k ≤ ss.length ∧ setB ((ss.take k).map lotOfS) n = false ∧ wr.cell? ⟨w.heap.size, 0, none⟩ = some (.slice A0 ts.length ca) ∧ wr.cell? ⟨w.heap.size, 1, none⟩ = some (.slice A0' ss.length ca') ∧ w.heap.size < wr.heap.size ∧ Below w.heap.size w wr) (fun v _ => ss.length - (intOf v).toNat)
      case atStart => exact ⟨0, rfl, by omega, rfl, hcell0, hcell, hlt, HB.out⟩
      case round =>
        obtain ⟨k2, rfl, hk2, hj2, hcellb, hcellc, hlt2, hB2⟩ := hrel
        have Hj2 := Lib.hid hj2
        have HB2 := Lib.hid hB2
        clear hj2 hB2
        by_cases hkl2 : k2 < ss.length
        · obtain ⟨b2, o2, eA2, hbB2, hcs2⟩ := HX'.out (by omega)
          subst eA2
          have hk3 : (k2 : Int) < (ss.length : Int) := by omega
          obtain ⟨⟨lo, hi⟩, ht2⟩ : ∃ t, ss[k2]? = some t := ⟨_, List.getElem?_eq_getElem hkl2⟩
          obtain ⟨c0, c1⟩ := hcs2 k2 lo hi ht2
          have d0 := (HB2.out.cell (p := ⟨b2, o2 + k2 * 2, none⟩) hbB2).trans c0
          have d1 := (HB2.out.cell (p := ⟨b2, o2 + k2 * 2 + 1, none⟩) hbB2).trans c1
          have HS := Lib.hid (setB_takeS ht2 n)
          clear c0 c1 ht2 hcs2
          by_cases hin : lo ≤ n ∧ n ≤ hi
          · have C := Lib.hid fun w => rin_yes n lo hi w hin.1 hin.2
            have hr1 : r = true := by
              rw [← HR.out]
              refine setB_mono (a := (ss.take (k2 + 1)).map lotOfS) (fun x hx => ?_) (by rw [HS.out]; simp [hin])
              obtain ⟨t, h1, rfl⟩ := List.mem_map.1 hx
              exact List.mem_append_right _ (List.mem_map_of_mem (List.mem_of_mem_take h1))
            subst hr1
            clear hin
            go_wp2_with fail
            go_quiet ((go_at_call 120; exact Calls.quiet_of_same (flip_same (C.out _))))
            go_wp2_with fail
            go_ret
            exact ⟨rfl, below_drewN HB2.out _⟩
          · have C := Lib.hid fun w => rin_no n lo hi w hin
            have HF : Hid (setB ((ss.take (k2 + 1)).map lotOfS) n = false) := Lib.hid (by rw [HS.out, Hj2.out]; simp; omega)
            clear hin
            go_wp2_with fail
            go_quiet ((go_at_call 120; exact Calls.quiet_of_same (flip_same (C.out _))))
            go_wp2_with fail
            go_roundw
            case rel => exact ⟨k2 + 1, by go_num, by omega, HF.out, hcellb, hcellc, hlt2, below_drewN HB2.out _⟩
            case measure => show ss.length - ((k2 : Int) + 1).toNat < ss.length - (k2 : Int).toNat; omega
        · have hk3 : (ss.length : Int) ≤ (k2 : Int) := by omega
          have hr0 : r = false := by
            rw [← HR.out]
            show setB (ts.map lotOfT ++ ss.map lotOfS) n = false
            rw [setB_append, HA.out]
            have := Hj2.out
            rwa [List.take_of_length_le (by omega)] at this
          subst hr0
          go_wp2_with fail
          go_ret
          exact ⟨rfl, HB2.out⟩
end Go.Proofs.YtlhgpeelenelbaaDoor

/- Contracts of the specification's asked, Holds, before. -/
namespace Go.Proofs.YtlhgpeelenelbaaDoor
open Go.RowKit

def mokB (n : Int) : Bool := decide (0 ≤ n ∧ n ≤ 1048576)
theorem rminute_any (n : Int) (w : World) : Calls Tryd.prog 118 #[.int .i64 n] w fun e w' => e = .returned (.bool (mokB n)) ∧ w = w' := by
  by_cases h : 0 ≤ n ∧ n ≤ 1048576
  · rw [show mokB n = true by unfold mokB; simp; exact h]
    go_enter Tryd.func118, Tryd.ntmps118
    go_wp2_with fail
    refine (rin_yes n 0 1048576 _ h.1 h.2).mono ?_
    rintro e w' ⟨rfl, rfl⟩
    go_wp2_with fail
    go_ret
    exact ⟨rfl, rfl⟩
  · rw [show mokB n = false by unfold mokB; simp; omega]
    have C := Lib.hid fun w => rin_no n 0 1048576 w h
    go_enter Tryd.func118, Tryd.ntmps118
    go_wp2_with fail
    refine (C.out _).mono ?_
    rintro e w' ⟨rfl, rfl⟩
    go_wp2_with fail
    go_ret
    exact ⟨rfl, rfl⟩

set_option maxHeartbeats 1000000 in
theorem rasked_any (v : Value) (ts : List T3) (ss : List S2) (n c d : Int) (w : World) (h : RM w.heap.size v ts ss w) (hc : CheckIs ts ss c) (hd : AtIs c n d) :
    Calls Tryd.prog 69 #[v, .int .i64 n] w fun e w' => e = .returned (.int .i64 d) ∧ Below w.heap.size w w' := by
  obtain ⟨A, m, ca, A', m', ca', rfl, h1, h2⟩ := h
  have C : Hid (∀ W, Below w.heap.size w W → w.heap.size ≤ W.heap.size → Calls Tryd.prog 26 #[.agg #[.slice A m ca, .slice A' m' ca']] W fun e w' => e = .returned (.int .i64 c) ∧ Below W.heap.size W w') :=
    Lib.hid fun W hb hs => rcheck_any _ _ ts ss c W (h1.up hs hb) (h2.up hs hb) hc
  have M := Lib.hid fun w => rminute_any n w
  clear h1 h2 hc
  rcases hd with ⟨a, rfl⟩ | ⟨rfl, hn, rfl⟩ | ⟨rfl, hn, rfl⟩
  · have hb0 : (d != 0) = true := by rw [bne_iff_ne]; exact a
    clear a
    go_enter Tryd.func69, Tryd.ntmps69
    go_wp2_with fail
    refine (C.out _ ((Below.refl _ _).alloc (Nat.le_refl _) _) (by simp)).mono ?_
    rintro e w1 ⟨rfl, hb1⟩
    have B1 := Lib.hid (((Below.refl w.heap.size w).alloc (Nat.le_refl _) (.cells #[.slice A m ca, .slice A' m' ca'] 25)).trans (hb1.mono (by simp)))
    clear hb1
    go_wp2_with fail
    go_ret
    exact ⟨rfl, B1.out⟩
  · rw [show mokB n = true by unfold mokB; simpa [MOk] using hn] at M
    clear hn
    go_enter Tryd.func69, Tryd.ntmps69
    go_wp2_with fail
    refine (C.out _ ((Below.refl _ _).alloc (Nat.le_refl _) _) (by simp)).mono ?_
    rintro e w1 ⟨rfl, hb1⟩
    have B1 := Lib.hid (((Below.refl w.heap.size w).alloc (Nat.le_refl _) (.cells #[.slice A m ca, .slice A' m' ca'] 25)).trans (hb1.mono (by simp)))
    clear hb1
    go_wp2_with fail
    refine (M.out _).mono ?_
    rintro e w2 ⟨rfl, rfl⟩
    go_wp2_with fail
    go_ret
    exact ⟨rfl, B1.out⟩
  · rw [show mokB n = false by unfold mokB; unfold MOk at hn; simp; omega] at M
    clear hn
    go_enter Tryd.func69, Tryd.ntmps69
    go_wp2_with fail
    refine (C.out _ ((Below.refl _ _).alloc (Nat.le_refl _) _) (by simp)).mono ?_
    rintro e w1 ⟨rfl, hb1⟩
    have B1 := Lib.hid (((Below.refl w.heap.size w).alloc (Nat.le_refl _) (.cells #[.slice A m ca, .slice A' m' ca'] 25)).trans (hb1.mono (by simp)))
    clear hb1
    go_wp2_with fail
    refine (M.out _).mono ?_
    rintro e w2 ⟨rfl, rfl⟩
    go_wp2_with fail
    go_ret
    exact ⟨rfl, B1.out⟩

theorem atIs_ok {ts : List T3} {ss : List S2} {c n : Int} (hc : CheckIs ts ss c) (hd : AtIs c n 0) : ts.length ≤ 24 ∧ ss.length ≤ 40 ∧ AllOk ts ss ∧ MOk n := by
  rcases hd with ⟨a, b⟩ | ⟨a, b, _⟩ | ⟨a, b, e⟩
  · omega
  · rcases hc with ⟨_, e⟩ | ⟨e1, e2, e3, _⟩ | ⟨_, _, _, e⟩
    · omega
    · exact ⟨e1, e2, e3, b⟩
    · omega
  · omega

set_option maxHeartbeats 1000000 in
theorem rholds_any (v : Value) (ts : List T3) (ss : List S2) (n c d : Int) (w : World) (h : RM w.heap.size v ts ss w) (hc : CheckIs ts ss c) (hd : AtIs c n d) :
    Calls Tryd.prog 18 #[v, .int .i64 n] w fun e w' => e = .returned (.tuple #[.bool (decide (d = 0) && setB (lotsOf ts ss) n), .int .i64 d]) ∧ Below w.heap.size w w' := by
  have H := Lib.hid h
  have C : Hid (∀ W, Below w.heap.size w W → w.heap.size ≤ W.heap.size → Calls Tryd.prog 69 #[v, .int .i64 n] W fun e w' => e = .returned (.int .i64 d) ∧ Below W.heap.size W w') :=
    Lib.hid fun W hb hs => rasked_any _ ts ss n c d W (H.out.up hs hb) hc hd
  by_cases h0 : d = 0
  · subst h0
    obtain ⟨k1, k2, k3, k4, k5⟩ := atIs_ok hc hd
    have K : Hid (∀ W, Below w.heap.size w W → w.heap.size ≤ W.heap.size → Calls Tryd.prog 70 #[v, .int .i64 n] W fun e w' => e = .returned (.bool (setB (lotsOf ts ss) n)) ∧ Below W.heap.size W w') :=
      Lib.hid fun W hb hs => rhas_any v ts ss n W (H.out.up hs hb) k3 k1 k2 (by omega) (by omega)
    simp only [decide_true, Bool.true_and]
    generalize setB (lotsOf ts ss) n = r at *
    obtain ⟨A, m, ca, A', m', ca', rfl, h1, h2⟩ := h
    clear hc hd k1 k2 k3 k4 k5 h1 h2
    go_enter Tryd.func18, Tryd.ntmps18
    go_wp2_with fail
    refine (C.out _ ((Below.refl _ _).alloc (Nat.le_refl _) _) (by simp)).mono ?_
    rintro e w1 ⟨rfl, hb1⟩
    have q0 : w1.cell? ⟨w.heap.size, 0, none⟩ = some (.slice A m ca) := (hb1.cell (p := ⟨w.heap.size, 0, none⟩) (by simp)).trans (by simp [go_sem])
    have q1 : w1.cell? ⟨w.heap.size, 1, none⟩ = some (.slice A' m' ca') := (hb1.cell (p := ⟨w.heap.size, 1, none⟩) (by simp)).trans (by simp [go_sem])
    have B1 := Lib.hid (((Below.refl w.heap.size w).alloc (Nat.le_refl _) (.cells #[.slice A m ca, .slice A' m' ca'] 25)).trans (hb1.mono (by simp)))
    clear hb1
    go_wp2_with fail
    refine (K.out _ B1.out B1.out.size).mono ?_
    rintro e w2 ⟨rfl, hb2⟩
    have B2 := Lib.hid (B1.out.trans (hb2.mono B1.out.size))
    clear hb2
    go_wp2_with fail
    go_ret2
    exact ⟨rfl, B2.out⟩
  · have hb0 : (d != 0) = true := by rw [bne_iff_ne]; exact h0
    rw [show (decide (d = 0) && setB (lotsOf ts ss) n) = false by simp [h0]]
    obtain ⟨A, m, ca, A', m', ca', rfl, h1, h2⟩ := h
    clear hc hd h1 h2 h0
    go_enter Tryd.func18, Tryd.ntmps18
    go_wp2_with fail
    refine (C.out _ ((Below.refl _ _).alloc (Nat.le_refl _) _) (by simp)).mono ?_
    rintro e w1 ⟨rfl, hb1⟩
    have B1 := Lib.hid (((Below.refl w.heap.size w).alloc (Nat.le_refl _) (.cells #[.slice A m ca, .slice A' m' ca'] 25)).trans (hb1.mono (by simp)))
    clear hb1
    go_wp2_with fail
    go_ret2
    exact ⟨rfl, B1.out⟩

def beforeF (p f l n : Int) : Int := if (n - f) % p < l then n else n - ((n - f) % p - l + 1)
set_option maxHeartbeats 1000000 in
theorem before_any (p f l n : Int) (w : World) (h : TOk p f l) (h3 : -9000000000000 ≤ n) (h4 : n ≤ 9000000000000) :
    Calls Tryd.prog 75 #[tv p f l, .int .i64 n] w fun e w' => e = .returned (.int .i64 (beforeF p f l n)) ∧ Below w.heap.size w w' := by
  obtain ⟨a1, a2, a3, a4, a5, a6⟩ := h
  have C := fun w => rmod_any (n - f) p w a1 (by omega) (by omega) (by omega)
  have HF : Hid (beforeF p f l n = if (n - f) % p < l then n else n - ((n - f) % p - l + 1)) := Lib.hid rfl
  have e1 : 0 ≤ (n - f) % p := Int.emod_nonneg _ (by omega)
  have e2 : (n - f) % p < p := Int.emod_lt_of_pos _ (by omega)
  generalize (n - f) % p = d at *
  have C' := Lib.hid C
  clear C
  by_cases c : d < l
  all_goals
    go_enter Tryd.func75, Tryd.ntmps75
    go_wp2_with fail
    refine (C'.out _).mono ?_
    rintro e w' ⟨rfl, rfl⟩
    go_wp2_with fail
    go_ret
  · exact ⟨ret_int (by rw [HF.out, if_pos c]), (Below.refl _ _).alloc (Nat.le_refl _) _⟩
  · exact ⟨ret_int (by rw [HF.out, if_neg (by omega)]), (Below.refl _ _).alloc (Nat.le_refl _) _⟩
end Go.Proofs.YtlhgpeelenelbaaDoor

/- Contract of the specification's Next. -/
namespace Go.Proofs.YtlhgpeelenelbaaDoor
open Go.RowKit

theorem after_mx (p f l n : Int) (h : TOk p f l) : afterF p f l n = mx (fromLo p f l n) n := by
  obtain ⟨a1, a2, a3, a4, a5, a6⟩ := h
  have e1 : 0 ≤ (n - f) % p := Int.emod_nonneg _ (by omega)
  have e2 : (n - f) % p < p := Int.emod_lt_of_pos _ (by omega)
  unfold afterF fromLo mx
  generalize (n - f) % p = r at *
  by_cases c : r < l
  · rw [if_pos c, if_neg (show ¬ l ≤ r by omega)]; split <;> omega
  · rw [if_neg c, if_pos (show l ≤ r by omega)]; split <;> omega

theorem foldl_snoc_take {α : Type} (g : α → Int) (l : List α) (k : Nat) (x : α) (h : l[k]? = some x) (a : Int) : ((l.take (k + 1)).map g).foldl mn a = mn (((l.take k).map g).foldl mn a) (g x) := by
  obtain ⟨h1, rfl⟩ := List.getElem?_eq_some_iff.1 h
  rw [List.take_succ_eq_append_getElem h1, List.map_append, List.foldl_append]; rfl
def gT (n : Int) (t : T3) : Int := mx (fromLo t.1 t.2.1 t.2.2 n) n
def gS (n : Int) (s : S2) : Int := mx (sFrom s.1 s.2 n) n
theorem nextNs_def (ts : List T3) (ss : List S2) (n : Int) : nextNs ts ss n = ts.map (gT n) ++ ss.map (gS n) := rfl
theorem foldl_mn_start (l : List Int) (a : Int) : l.foldl mn a ≤ a := (foldl_mn_le l a).1

set_option maxHeartbeats 2000000 in
set_option maxRecDepth 100000 in
theorem rnext_ok (v : Value) (ts : List T3) (ss : List S2) (n r q : Int) (w : World) (h : RM w.heap.size v ts ss w) (hc : CheckIs ts ss 0) (hn : MOk n)
    (hr : (1048576 < (nextNs ts ss n).foldl mn 1048577 ∧ r = 0 ∧ q = 5) ∨ ((nextNs ts ss n).foldl mn 1048577 ≤ 1048576 ∧ r = (nextNs ts ss n).foldl mn 1048577 ∧ q = 0)) :
    Calls Tryd.prog 20 #[v, .int .i64 n] w fun e w' => e = .returned (.tuple #[.int .i64 r, .int .i64 q]) ∧ Below w.heap.size w w' := by
  have H := Lib.hid h
  obtain ⟨A0, m0, ca, A0', m0', ca', rfl, ht, hs⟩ := h
  have C : Hid (∀ W, Below w.heap.size w W → w.heap.size ≤ W.heap.size → Calls Tryd.prog 69 #[.agg #[.slice A0 m0 ca, .slice A0' m0' ca'], .int .i64 n] W fun e w' => e = .returned (.int .i64 0) ∧ Below W.heap.size W w') :=
    Lib.hid fun W hb hs => rasked_any _ ts ss n 0 0 W (H.out.up hs hb) hc (.inr (.inl ⟨rfl, hn, rfl⟩))
  obtain ⟨k1, k2, k3, -⟩ := atIs_ok hc (.inr (.inl ⟨rfl, hn, rfl⟩))
  have OK := Lib.hid k3
  obtain ⟨n0, n1⟩ := hn
  obtain ⟨A, ca2, e1, l1, hx⟩ := ht
  obtain ⟨A', ca2', e2, l2, hy⟩ := hs
  injection e1 with q1 q2 q3
  injection e2 with q4 q5 q6
  subst q1 q2 q3 q4 q5 q6
  have HX := Lib.hid hx
  have HX' := Lib.hid hy
  obtain ⟨N, hN⟩ : ∃ N, nextNs ts ss n = N := ⟨_, rfl⟩
  rw [hN] at hr
  have HR := Lib.hid hr
  clear hx hy hc k3 H hr
  go_enter Tryd.func20, Tryd.ntmps20
  go_wp2_with fail
  refine (C.out _ ((Below.refl _ _).alloc (Nat.le_refl _) _) (by simp)).mono ?_
  rintro e w1 ⟨rfl, hb1⟩
  have q0 : w1.cell? ⟨w.heap.size, 0, none⟩ = some (.slice A0 ts.length ca) := (hb1.cell (p := ⟨w.heap.size, 0, none⟩) (by simp)).trans (by simp [go_sem])
  have q1 : w1.cell? ⟨w.heap.size, 1, none⟩ = some (.slice A0' ss.length ca') := (hb1.cell (p := ⟨w.heap.size, 1, none⟩) (by simp)).trans (by simp [go_sem])
  have z1 : w.heap.size < w1.heap.size := by have := hb1.size; simp at this; omega
  have B1 := Lib.hid (((Below.refl w.heap.size w).alloc (Nat.le_refl _) (.cells #[.slice A0 ts.length ca, .slice A0' ss.length ca'] 25)).trans (hb1.mono (by simp)))
  clear hb1
  go_wp2_with fail
  go_loopw [7, 8] (fun u v wr => ∃ k : Nat, v = .int .i64 k ∧ k ≤ ts.length ∧ (∃ o, u = .int .i64 o ∧ o = ((ts.take k).map (gT n)).foldl mn 1048577) ∧ wr.cell? ⟨w.heap.size, 0, none⟩ = some (.slice A0 ts.length ca) ∧ wr.cell? ⟨w.heap.size, 1, none⟩ = some (.slice A0' ss.length ca') ∧ w.heap.size < wr.heap.size ∧ Below w.heap.size w wr) (fun _ v _ => ts.length - (intOf v).toNat)
  case atStart => exact ⟨0, rfl, by omega, ⟨_, rfl, rfl⟩, q0, q1, z1, B1.out⟩
  case round =>
    obtain ⟨k, rfl, hk, ⟨o, rfl, ho⟩, hcell0, hcell, hlt, hB⟩ := hrel
    have Ho := Lib.hid ho
    have HB := Lib.hid hB
    have hlt1 : ∀ W, Below wr.heap.size wr W → W.cell? ⟨w.heap.size, 0, none⟩ = some (.slice A0 ts.length ca) ∧ W.cell? ⟨w.heap.size, 1, none⟩ = some (.slice A0' ss.length ca') := fun W hb => ⟨(hb.cell (p := ⟨w.heap.size, 0, none⟩) hlt).trans hcell0, (hb.cell (p := ⟨w.heap.size, 1, none⟩) hlt).trans hcell⟩
    have HL := Lib.hid hlt1
    clear ho hB hlt1
    by_cases hkl : k < ts.length
    · obtain ⟨b, o1, eA, hbB, hcs⟩ := HX.out (by omega)
      subst eA
      have hk0 : (k : Int) < (ts.length : Int) := by omega
      obtain ⟨⟨p, f, l⟩, ht⟩ : ∃ t, ts[k]? = some t := ⟨_, List.getElem?_eq_getElem hkl⟩
      obtain ⟨c0, c1, c2'⟩ := hcs k p f l ht
      have d0 := (HB.out.cell (p := ⟨b, o1 + k * 3, none⟩) hbB).trans c0
      have d1 := (HB.out.cell (p := ⟨b, o1 + k * 3 + 1, none⟩) hbB).trans c1
      have d2 := (HB.out.cell (p := ⟨b, o1 + k * 3 + 2, none⟩) hbB).trans c2'
      have hTO := OK.out.1 _ (List.mem_of_getElem? ht)
      have HS := foldl_snoc_take (gT n) ts k _ ht 1048577
      rw [← Ho.out] at HS
      have HG : gT n (p, f, l) = afterF p f l n := (after_mx p f l n hTO).symm
      rw [HG] at HS
      have C := Lib.hid fun w => after_any p f l n w hTO (by omega) (by omega)
      generalize afterF p f l n = x at *
      have HS' := Lib.hid HS
      clear c0 c1 c2' ht hcs hTO HG HS
      by_cases cx : x < o
      all_goals
        go_wp2_with fail
        refine (C.out _).mono ?_
        rintro e w4 ⟨rfl, h4⟩
        have B4 := Lib.hid h4
        have z4 := h4.size
        clear h4
        go_wp2_with fail
        go_roundw
      · exact ⟨k + 1, by go_num, by omega, ⟨_, rfl, by rw [HS'.out, mn, if_pos cx]⟩, (HL.out _ B4.out).1, (HL.out _ B4.out).2, by omega, HB.out.trans (B4.out.mono (by omega))⟩
      · show ts.length - ((k : Int) + 1).toNat < ts.length - (k : Int).toNat; omega
      · exact ⟨k + 1, by go_num, by omega, ⟨_, rfl, by rw [HS'.out, mn, if_neg (by omega)]⟩, (HL.out _ B4.out).1, (HL.out _ B4.out).2, by omega, HB.out.trans (B4.out.mono (by omega))⟩
      · show ts.length - ((k : Int) + 1).toNat < ts.length - (k : Int).toNat; omega
    · have hk0 : (ts.length : Int) ≤ (k : Int) := by omega
      have HA : Hid (o = (ts.map (gT n)).foldl mn 1048577) := Lib.hid (by have := Ho.out; rwa [List.take_of_length_le (by omega)] at this)
      go_wp2_with fail
      go_loopw [7, 9] (fun u v wr => ∃ k : Nat, v = .int .i64 k ∧ k ≤ ss.length ∧ (∃ o2, u = .int .i64 o2 ∧ o2 = ((ss.take k).map (gS n)).foldl mn o) ∧ wr.cell? ⟨w.heap.size, 0, none⟩ = some (.slice A0 ts.length ca) ∧ wr.cell? ⟨w.heap.size, 1, none⟩ = some (.slice A0' ss.length ca') ∧ w.heap.size < wr.heap.size ∧ Below w.heap.size w wr) (fun _ v _ => ss.length - (intOf v).toNat)
      case atStart => exact ⟨0, rfl, by omega, ⟨_, rfl, rfl⟩, hcell0, hcell, hlt, HB.out⟩
      case round =>
        obtain ⟨k2, rfl, hk2, ⟨o2, rfl, ho2⟩, hcellb, hcellc, hlt2, hB2⟩ := hrel
        have Ho2 := Lib.hid ho2
        have HB2 := Lib.hid hB2
        clear ho2 hB2
        by_cases hkl2 : k2 < ss.length
        · obtain ⟨b2, o3, eA2, hbB2, hcs2⟩ := HX'.out (by omega)
          subst eA2
          have hk3 : (k2 : Int) < (ss.length : Int) := by omega
          obtain ⟨⟨lo, hi⟩, ht2⟩ : ∃ t, ss[k2]? = some t := ⟨_, List.getElem?_eq_getElem hkl2⟩
          obtain ⟨c0, c1⟩ := hcs2 k2 lo hi ht2
          have d0 := (HB2.out.cell (p := ⟨b2, o3 + k2 * 2, none⟩) hbB2).trans c0
          have d1 := (HB2.out.cell (p := ⟨b2, o3 + k2 * 2 + 1, none⟩) hbB2).trans c1
          have HS := foldl_snoc_take (gS n) ss k2 _ ht2 o
          rw [← Ho2.out] at HS
          have HS' := Lib.hid HS
          have hbd : o2 ≤ 1048577 := by
            have e1 := foldl_mn_start ((ss.take k2).map (gS n)) o
            have e2 := foldl_mn_start (ts.map (gT n)) 1048577
            rw [← Ho2.out] at e1
            rw [← HA.out] at e2
            omega
          clear c0 c1 ht2 hcs2 HS
          by_cases ch : hi < n
          · have hx2 : gS n (lo, hi) = 1099511627776 := by simp only [gS, sFrom, mx, if_pos ch]; rw [if_neg (by omega)]
            have HF : Hid (((ss.take (k2 + 1)).map (gS n)).foldl mn o = o2) := Lib.hid (by rw [HS'.out, hx2, mn, if_neg (by omega)])
            go_wp2_with fail
            go_roundw
            case rel => exact ⟨k2 + 1, by go_num, by omega, ⟨_, rfl, HF.out.symm⟩, hcellb, hcellc, hlt2, HB2.out⟩
            case measure => show ss.length - ((k2 : Int) + 1).toNat < ss.length - (k2 : Int).toNat; omega
          · have ch' : n ≤ hi := by omega
            by_cases cl : n < lo
            · have hx2 : gS n (lo, hi) = lo := by simp only [gS, sFrom, mx, if_neg ch]; rw [if_neg (by omega)]
              rw [hx2] at HS'
              clear hx2 ch
              by_cases cx : lo < o2
              all_goals
                go_wp2_with fail
                go_roundw
              · exact ⟨k2 + 1, by go_num, by omega, ⟨_, rfl, by rw [HS'.out, mn, if_pos cx]⟩, hcellb, hcellc, hlt2, HB2.out⟩
              · show ss.length - ((k2 : Int) + 1).toNat < ss.length - (k2 : Int).toNat; omega
              · exact ⟨k2 + 1, by go_num, by omega, ⟨_, rfl, by rw [HS'.out, mn, if_neg (by omega)]⟩, hcellb, hcellc, hlt2, HB2.out⟩
              · show ss.length - ((k2 : Int) + 1).toNat < ss.length - (k2 : Int).toNat; omega
            · have hx2 : gS n (lo, hi) = n := by simp only [gS, sFrom, mx, if_neg ch]; split <;> omega
              rw [hx2] at HS'
              clear hx2 ch
              by_cases cx : n < o2
              all_goals
                go_wp2_with fail
                go_roundw
              · exact ⟨k2 + 1, by go_num, by omega, ⟨_, rfl, by rw [HS'.out, mn, if_pos cx]⟩, hcellb, hcellc, hlt2, HB2.out⟩
              · show ss.length - ((k2 : Int) + 1).toNat < ss.length - (k2 : Int).toNat; omega
              · exact ⟨k2 + 1, by go_num, by omega, ⟨_, rfl, by rw [HS'.out, mn, if_neg (by omega)]⟩, hcellb, hcellc, hlt2, HB2.out⟩
              · show ss.length - ((k2 : Int) + 1).toNat < ss.length - (k2 : Int).toNat; omega
        · have hk3 : (ss.length : Int) ≤ (k2 : Int) := by omega
          have hfin : Hid (o2 = N.foldl mn 1048577) := Lib.hid (by
            have := Ho2.out
            rw [List.take_of_length_le (by omega), HA.out, ← List.foldl_append, ← nextNs_def, hN] at this
            exact this)
          rcases HR.out with ⟨cz, rfl, rfl⟩ | ⟨cz, hr1, rfl⟩
          · rw [← hfin.out] at cz
            go_wp2_with fail
            go_ret2
            exact ⟨rfl, HB2.out⟩
          · rw [← hfin.out] at cz hr1
            subst hr1
            go_wp2_with fail
            go_ret2
            exact ⟨rfl, HB2.out⟩
end Go.Proofs.YtlhgpeelenelbaaDoor

/- Contract of the specification's Last. -/
namespace Go.Proofs.YtlhgpeelenelbaaDoor
open Go.RowKit

theorem before_mn (p f l n : Int) (h : TOk p f l) : beforeF p f l n = mn (tTo p f l n) n := by
  obtain ⟨a1, a2, a3, a4, a5, a6⟩ := h
  have e1 : 0 ≤ (n - f) % p := Int.emod_nonneg _ (by omega)
  have e2 : (n - f) % p < p := Int.emod_lt_of_pos _ (by omega)
  unfold beforeF tTo mn
  generalize (n - f) % p = r at *
  by_cases c : r < l
  · rw [if_pos c]; split <;> omega
  · rw [if_neg c]; split <;> omega
def hT (n : Int) (t : T3) : Int := -(mn (tTo t.1 t.2.1 t.2.2 n) n)
def hS (n : Int) (s : S2) : Int := -(mn (sTo s.1 s.2 n) n)
theorem lastNs_def (ts : List T3) (ss : List S2) (n : Int) : lastNs ts ss n = ts.map (hT n) ++ ss.map (hS n) := rfl
theorem neg_mn (a x : Int) : -(mn (-a) (-x)) = if a < x then x else a := by unfold mn; split <;> split <;> omega

set_option maxHeartbeats 2000000 in
set_option maxRecDepth 100000 in
theorem rlast_ok (v : Value) (ts : List T3) (ss : List S2) (n r q : Int) (w : World) (h : RM w.heap.size v ts ss w) (hc : CheckIs ts ss 0) (hn : MOk n)
    (hr : (0 < (lastNs ts ss n).foldl mn 1 ∧ r = 0 ∧ q = 5) ∨ ((lastNs ts ss n).foldl mn 1 ≤ 0 ∧ r = -(lastNs ts ss n).foldl mn 1 ∧ q = 0)) :
    Calls Tryd.prog 22 #[v, .int .i64 n] w fun e w' => e = .returned (.tuple #[.int .i64 r, .int .i64 q]) ∧ Below w.heap.size w w' := by
  have H := Lib.hid h
  obtain ⟨A0, m0, ca, A0', m0', ca', rfl, ht, hs⟩ := h
  have C : Hid (∀ W, Below w.heap.size w W → w.heap.size ≤ W.heap.size → Calls Tryd.prog 69 #[.agg #[.slice A0 m0 ca, .slice A0' m0' ca'], .int .i64 n] W fun e w' => e = .returned (.int .i64 0) ∧ Below W.heap.size W w') :=
    Lib.hid fun W hb hs => rasked_any _ ts ss n 0 0 W (H.out.up hs hb) hc (.inr (.inl ⟨rfl, hn, rfl⟩))
  obtain ⟨k1, k2, k3, -⟩ := atIs_ok hc (.inr (.inl ⟨rfl, hn, rfl⟩))
  have OK := Lib.hid k3
  obtain ⟨n0, n1⟩ := hn
  obtain ⟨A, ca2, e1, l1, hx⟩ := ht
  obtain ⟨A', ca2', e2, l2, hy⟩ := hs
  injection e1 with q1 q2 q3
  injection e2 with q4 q5 q6
  subst q1 q2 q3 q4 q5 q6
  have HX := Lib.hid hx
  have HX' := Lib.hid hy
  obtain ⟨N, hN⟩ : ∃ N, lastNs ts ss n = N := ⟨_, rfl⟩
  rw [hN] at hr
  have HR := Lib.hid hr
  clear hx hy hc k3 H hr
  go_enter Tryd.func22, Tryd.ntmps22
  go_wp2_with fail
  refine (C.out _ ((Below.refl _ _).alloc (Nat.le_refl _) _) (by simp)).mono ?_
  rintro e w1 ⟨rfl, hb1⟩
  have q0 : w1.cell? ⟨w.heap.size, 0, none⟩ = some (.slice A0 ts.length ca) := (hb1.cell (p := ⟨w.heap.size, 0, none⟩) (by simp)).trans (by simp [go_sem])
  have q1 : w1.cell? ⟨w.heap.size, 1, none⟩ = some (.slice A0' ss.length ca') := (hb1.cell (p := ⟨w.heap.size, 1, none⟩) (by simp)).trans (by simp [go_sem])
  have z1 : w.heap.size < w1.heap.size := by have := hb1.size; simp at this; omega
  have B1 := Lib.hid (((Below.refl w.heap.size w).alloc (Nat.le_refl _) (.cells #[.slice A0 ts.length ca, .slice A0' ss.length ca'] 25)).trans (hb1.mono (by simp)))
  clear hb1
  go_wp2_with fail
  go_loopw [7, 8] (fun u v wr => ∃ k : Nat, v = .int .i64 k ∧ k ≤ ts.length ∧ (∃ o, u = .int .i64 o ∧ o = -((ts.take k).map (hT n)).foldl mn 1) ∧ wr.cell? ⟨w.heap.size, 0, none⟩ = some (.slice A0 ts.length ca) ∧ wr.cell? ⟨w.heap.size, 1, none⟩ = some (.slice A0' ss.length ca') ∧ w.heap.size < wr.heap.size ∧ Below w.heap.size w wr) (fun _ v _ => ts.length - (intOf v).toNat)
  case atStart => exact ⟨0, rfl, by omega, ⟨_, rfl, rfl⟩, q0, q1, z1, B1.out⟩
  case round =>
    obtain ⟨k, rfl, hk, ⟨o, rfl, ho⟩, hcell0, hcell, hlt, hB⟩ := hrel
    have Ho := Lib.hid ho
    have HB := Lib.hid hB
    have hlt1 : ∀ W, Below wr.heap.size wr W → W.cell? ⟨w.heap.size, 0, none⟩ = some (.slice A0 ts.length ca) ∧ W.cell? ⟨w.heap.size, 1, none⟩ = some (.slice A0' ss.length ca') := fun W hb => ⟨(hb.cell (p := ⟨w.heap.size, 0, none⟩) hlt).trans hcell0, (hb.cell (p := ⟨w.heap.size, 1, none⟩) hlt).trans hcell⟩
    have HL := Lib.hid hlt1
    clear ho hB hlt1
    by_cases hkl : k < ts.length
    · obtain ⟨b, o1, eA, hbB, hcs⟩ := HX.out (by omega)
      subst eA
      have hk0 : (k : Int) < (ts.length : Int) := by omega
      obtain ⟨⟨p, f, l⟩, ht⟩ : ∃ t, ts[k]? = some t := ⟨_, List.getElem?_eq_getElem hkl⟩
      obtain ⟨c0, c1, c2'⟩ := hcs k p f l ht
      have d0 := (HB.out.cell (p := ⟨b, o1 + k * 3, none⟩) hbB).trans c0
      have d1 := (HB.out.cell (p := ⟨b, o1 + k * 3 + 1, none⟩) hbB).trans c1
      have d2 := (HB.out.cell (p := ⟨b, o1 + k * 3 + 2, none⟩) hbB).trans c2'
      have hTO := OK.out.1 _ (List.mem_of_getElem? ht)
      have HS := foldl_snoc_take (hT n) ts k _ ht 1
      rw [show ((ts.take k).map (hT n)).foldl mn 1 = -o by have := Ho.out; omega] at HS
      have HG : hT n (p, f, l) = -beforeF p f l n := by rw [before_mn p f l n hTO]; rfl
      rw [HG] at HS
      have C := Lib.hid fun w => before_any p f l n w hTO (by omega) (by omega)
      generalize beforeF p f l n = x at *
      have HS' := Lib.hid HS
      clear c0 c1 c2' ht hcs hTO HG HS
      by_cases cx : o < x
      all_goals
        go_wp2_with fail
        refine (C.out _).mono ?_
        rintro e w4 ⟨rfl, h4⟩
        have B4 := Lib.hid h4
        have z4 := h4.size
        clear h4
        go_wp2_with fail
        go_roundw
      · exact ⟨k + 1, by go_num, by omega, ⟨_, rfl, by rw [HS'.out, neg_mn, if_pos cx]⟩, (HL.out _ B4.out).1, (HL.out _ B4.out).2, by omega, HB.out.trans (B4.out.mono (by omega))⟩
      · show ts.length - ((k : Int) + 1).toNat < ts.length - (k : Int).toNat; omega
      · exact ⟨k + 1, by go_num, by omega, ⟨_, rfl, by rw [HS'.out, neg_mn, if_neg (by omega)]⟩, (HL.out _ B4.out).1, (HL.out _ B4.out).2, by omega, HB.out.trans (B4.out.mono (by omega))⟩
      · show ts.length - ((k : Int) + 1).toNat < ts.length - (k : Int).toNat; omega
    · have hk0 : (ts.length : Int) ≤ (k : Int) := by omega
      have HA : Hid (o = -(ts.map (hT n)).foldl mn 1) := Lib.hid (by have := Ho.out; rwa [List.take_of_length_le (by omega)] at this)
      go_wp2_with fail
      go_loopw [7, 9] (fun u v wr => ∃ k : Nat, v = .int .i64 k ∧ k ≤ ss.length ∧ (∃ o2, u = .int .i64 o2 ∧ o2 = -((ss.take k).map (hS n)).foldl mn (-o)) ∧ wr.cell? ⟨w.heap.size, 0, none⟩ = some (.slice A0 ts.length ca) ∧ wr.cell? ⟨w.heap.size, 1, none⟩ = some (.slice A0' ss.length ca') ∧ w.heap.size < wr.heap.size ∧ Below w.heap.size w wr) (fun _ v _ => ss.length - (intOf v).toNat)
      case atStart => exact ⟨0, rfl, by omega, ⟨_, rfl, by simp⟩, hcell0, hcell, hlt, HB.out⟩
      case round =>
        obtain ⟨k2, rfl, hk2, ⟨o2, rfl, ho2⟩, hcellb, hcellc, hlt2, hB2⟩ := hrel
        have Ho2 := Lib.hid ho2
        have HB2 := Lib.hid hB2
        clear ho2 hB2
        by_cases hkl2 : k2 < ss.length
        · obtain ⟨b2, o3, eA2, hbB2, hcs2⟩ := HX'.out (by omega)
          subst eA2
          have hk3 : (k2 : Int) < (ss.length : Int) := by omega
          obtain ⟨⟨lo, hi⟩, ht2⟩ : ∃ t, ss[k2]? = some t := ⟨_, List.getElem?_eq_getElem hkl2⟩
          obtain ⟨c0, c1⟩ := hcs2 k2 lo hi ht2
          have d0 := (HB2.out.cell (p := ⟨b2, o3 + k2 * 2, none⟩) hbB2).trans c0
          have d1 := (HB2.out.cell (p := ⟨b2, o3 + k2 * 2 + 1, none⟩) hbB2).trans c1
          have HS := foldl_snoc_take (hS n) ss k2 _ ht2 (-o)
          rw [show ((ss.take k2).map (hS n)).foldl mn (-o) = -o2 by have := Ho2.out; omega] at HS
          have HS' := Lib.hid HS
          have hbd : -1 ≤ o2 := by
            have e1 := foldl_mn_start ((ss.take k2).map (hS n)) (-o)
            have e2 := foldl_mn_start (ts.map (hT n)) 1
            have e3 := Ho2.out
            have e4 := HA.out
            omega
          clear c0 c1 ht2 hcs2 HS
          by_cases ch : n < lo
          · have hx2 : hS n (lo, hi) = 1099511627776 := by simp only [hS, sTo, mn, if_pos ch]; rw [if_neg (by omega)]; rfl
            have HF : Hid (((ss.take (k2 + 1)).map (hS n)).foldl mn (-o) = -o2) := Lib.hid (by rw [HS'.out, hx2, mn, if_neg (by omega)])
            go_wp2_with fail
            go_roundw
            case rel => exact ⟨k2 + 1, by go_num, by omega, ⟨_, rfl, by rw [HF.out]; omega⟩, hcellb, hcellc, hlt2, HB2.out⟩
            case measure => show ss.length - ((k2 : Int) + 1).toNat < ss.length - (k2 : Int).toNat; omega
          · have ch' : lo ≤ n := by omega
            by_cases cl : hi < n
            · have hx2 : hS n (lo, hi) = -hi := by simp only [hS, sTo, mn, if_neg ch]; rw [if_neg (by omega)]
              rw [hx2] at HS'
              clear hx2 ch
              by_cases cx : o2 < hi
              all_goals
                go_wp2_with fail
                go_roundw
              · exact ⟨k2 + 1, by go_num, by omega, ⟨_, rfl, by rw [HS'.out, neg_mn, if_pos cx]⟩, hcellb, hcellc, hlt2, HB2.out⟩
              · show ss.length - ((k2 : Int) + 1).toNat < ss.length - (k2 : Int).toNat; omega
              · exact ⟨k2 + 1, by go_num, by omega, ⟨_, rfl, by rw [HS'.out, neg_mn, if_neg (by omega)]⟩, hcellb, hcellc, hlt2, HB2.out⟩
              · show ss.length - ((k2 : Int) + 1).toNat < ss.length - (k2 : Int).toNat; omega
            · have hx2 : hS n (lo, hi) = -n := by simp only [hS, sTo, mn, if_neg ch]; split <;> omega
              rw [hx2] at HS'
              clear hx2 ch
              by_cases cx : o2 < n
              all_goals
                go_wp2_with fail
                go_roundw
              · exact ⟨k2 + 1, by go_num, by omega, ⟨_, rfl, by rw [HS'.out, neg_mn, if_pos cx]⟩, hcellb, hcellc, hlt2, HB2.out⟩
              · show ss.length - ((k2 : Int) + 1).toNat < ss.length - (k2 : Int).toNat; omega
              · exact ⟨k2 + 1, by go_num, by omega, ⟨_, rfl, by rw [HS'.out, neg_mn, if_neg (by omega)]⟩, hcellb, hcellc, hlt2, HB2.out⟩
              · show ss.length - ((k2 : Int) + 1).toNat < ss.length - (k2 : Int).toNat; omega
        · have hk3 : (ss.length : Int) ≤ (k2 : Int) := by omega
          have hfin : Hid (o2 = -N.foldl mn 1) := Lib.hid (by
            have h := Ho2.out
            rw [List.take_of_length_le (by omega), show -o = (ts.map (hT n)).foldl mn 1 by have := HA.out; omega, ← List.foldl_append, ← lastNs_def, hN] at h
            exact h)
          rcases HR.out with ⟨cz, rfl, rfl⟩ | ⟨cz, hr1, rfl⟩
          · have cz' : o2 < 0 := by have := hfin.out; omega
            clear cz
            go_wp2_with fail
            go_ret2
            exact ⟨rfl, HB2.out⟩
          · rw [← hfin.out] at hr1
            have cz' : 0 ≤ o2 := by have := hfin.out; omega
            subst hr1
            clear cz
            go_wp2_with fail
            go_ret2
            exact ⟨rfl, HB2.out⟩
end Go.Proofs.YtlhgpeelenelbaaDoor

/- Contracts of the specification's Next and Last, in the terms of the layer's. -/
namespace Go.Proofs.YtlhgpeelenelbaaDoor
open Go.RowKit

theorem foldl_mn_two (l : List Int) {a b : Int} (h : a ≤ b) : l.foldl mn a = mn (l.foldl mn b) a := by
  obtain ⟨x1, x2, x3⟩ := foldl_mn_le l a
  obtain ⟨y1, y2, y3⟩ := foldl_mn_le l b
  unfold mn at *
  rcases x3 with x3 | x3
  · have : l.foldl mn a ≤ l.foldl mn b := by
      rcases y3 with y3 | y3
      · unfold mn; omega
      · exact x2 _ y3
    unfold mn at this
    split <;> omega
  · have h1 := y2 _ x3
    have : l.foldl mn a ≤ l.foldl mn b := by
      rcases y3 with y3 | y3
      · unfold mn; omega
      · exact x2 _ y3
    unfold mn at this
    split <;> omega

set_option maxHeartbeats 1000000 in
theorem rnext_any (v : Value) (ts : List T3) (ss : List S2) (n c d r q : Int) (w : World) (h : RM w.heap.size v ts ss w) (hc : CheckIs ts ss c) (hd : AtIs c n d) (hr : NextIs ts ss n d r q) :
    Calls Tryd.prog 20 #[v, .int .i64 n] w fun e w' => e = .returned (.tuple #[.int .i64 r, .int .i64 q]) ∧ Below w.heap.size w w' := by
  by_cases h0 : d = 0
  · subst h0
    obtain ⟨k1, k2, k3, k4⟩ := atIs_ok hc hd
    obtain rfl : c = 0 := by rcases hd with ⟨a, b⟩ | ⟨a, _⟩ | ⟨a, _⟩ <;> omega
    have e := foldl_mn_two (nextNs ts ss n) (show (1048577 : Int) ≤ 1099511627776 by omega)
    refine rnext_ok v ts ss n r q w h hc k4 ?_
    rw [e]
    rcases hr with ⟨a, _⟩ | ⟨_, a, b, c⟩ | ⟨_, a, b, c⟩
    · exact absurd rfl a
    · right
      unfold nextM at a b
      unfold mn at a b ⊢
      split <;> omega
    · left
      unfold nextM at a
      unfold mn at a ⊢
      split <;> omega
  · obtain ⟨rfl, rfl⟩ : r = 0 ∧ q = d := by
      rcases hr with ⟨_, a, b⟩ | ⟨a, _⟩ | ⟨a, _⟩
      · exact ⟨a, b⟩
      · exact absurd a h0
      · exact absurd a h0
    have H := Lib.hid h
    have C : Hid (∀ W, Below w.heap.size w W → w.heap.size ≤ W.heap.size → Calls Tryd.prog 69 #[v, .int .i64 n] W fun e w' => e = .returned (.int .i64 q) ∧ Below W.heap.size W w') :=
      Lib.hid fun W hb hs => rasked_any _ ts ss n c q W (H.out.up hs hb) hc hd
    have hb0 : (q != 0) = true := by rw [bne_iff_ne]; exact h0
    obtain ⟨A, m, ca, A', m', ca', rfl, h1, h2⟩ := h
    clear hc hd h1 h2 h0 hr
    go_enter Tryd.func20, Tryd.ntmps20
    go_wp2_with fail
    refine (C.out _ ((Below.refl _ _).alloc (Nat.le_refl _) _) (by simp)).mono ?_
    rintro e w1 ⟨rfl, hb1⟩
    have B1 := Lib.hid (((Below.refl w.heap.size w).alloc (Nat.le_refl _) (.cells #[.slice A m ca, .slice A' m' ca'] 25)).trans (hb1.mono (by simp)))
    clear hb1
    go_wp2_with fail
    go_ret2
    exact ⟨rfl, B1.out⟩

set_option maxHeartbeats 1000000 in
theorem rlast_any (v : Value) (ts : List T3) (ss : List S2) (n c d r q : Int) (w : World) (h : RM w.heap.size v ts ss w) (hc : CheckIs ts ss c) (hd : AtIs c n d) (hr : LastIs ts ss n d r q) :
    Calls Tryd.prog 22 #[v, .int .i64 n] w fun e w' => e = .returned (.tuple #[.int .i64 r, .int .i64 q]) ∧ Below w.heap.size w w' := by
  by_cases h0 : d = 0
  · subst h0
    obtain ⟨k1, k2, k3, k4⟩ := atIs_ok hc hd
    obtain rfl : c = 0 := by rcases hd with ⟨a, b⟩ | ⟨a, _⟩ | ⟨a, _⟩ <;> omega
    have e := foldl_mn_two (lastNs ts ss n) (show (1 : Int) ≤ 1099511627776 by omega)
    refine rlast_ok v ts ss n r q w h hc k4 ?_
    rw [e]
    rcases hr with ⟨a, _⟩ | ⟨_, a, b, c⟩ | ⟨_, a, b, c⟩
    · exact absurd rfl a
    · right
      unfold lastM at a b
      unfold mn at a b ⊢
      split <;> omega
    · left
      unfold lastM at a
      unfold mn at a ⊢
      split <;> omega
  · obtain ⟨rfl, rfl⟩ : r = 0 ∧ q = d := by
      rcases hr with ⟨_, a, b⟩ | ⟨a, _⟩ | ⟨a, _⟩
      · exact ⟨a, b⟩
      · exact absurd a h0
      · exact absurd a h0
    have H := Lib.hid h
    have C : Hid (∀ W, Below w.heap.size w W → w.heap.size ≤ W.heap.size → Calls Tryd.prog 69 #[v, .int .i64 n] W fun e w' => e = .returned (.int .i64 q) ∧ Below W.heap.size W w') :=
      Lib.hid fun W hb hs => rasked_any _ ts ss n c q W (H.out.up hs hb) hc hd
    have hb0 : (q != 0) = true := by rw [bne_iff_ne]; exact h0
    obtain ⟨A, m, ca, A', m', ca', rfl, h1, h2⟩ := h
    clear hc hd h1 h2 h0 hr
    go_enter Tryd.func22, Tryd.ntmps22
    go_wp2_with fail
    refine (C.out _ ((Below.refl _ _).alloc (Nat.le_refl _) _) (by simp)).mono ?_
    rintro e w1 ⟨rfl, hb1⟩
    have B1 := Lib.hid (((Below.refl w.heap.size w).alloc (Nat.le_refl _) (.cells #[.slice A m ca, .slice A' m' ca'] 25)).trans (hb1.mono (by simp)))
    clear hb1
    go_wp2_with fail
    go_ret2
    exact ⟨rfl, B1.out⟩

theorem AtIs.exists_ (c n : Int) : ∃ d, AtIs c n d := by
  by_cases h : c = 0
  · by_cases h2 : MOk n
    · exact ⟨0, .inr (.inl ⟨h, h2, rfl⟩)⟩
    · exact ⟨1, .inr (.inr ⟨h, h2, rfl⟩)⟩
  · exact ⟨c, .inl ⟨h, rfl⟩⟩
theorem CheckIs.exists_ (ts : List T3) (ss : List S2) : ∃ c, CheckIs ts ss c := by
  by_cases h : 24 < ts.length ∨ 40 < ss.length
  · exact ⟨2, .inl ⟨h, rfl⟩⟩
  · by_cases h2 : AllOk ts ss
    · exact ⟨0, .inr (.inl ⟨by omega, by omega, h2, rfl⟩)⟩
    · exact ⟨1, .inr (.inr ⟨by omega, by omega, h2, rfl⟩)⟩
theorem NextIs.exists_ (ts : List T3) (ss : List S2) (n d : Int) : ∃ r q, NextIs ts ss n d r q := by
  by_cases h : d = 0
  · by_cases h2 : nextM ts ss n ≤ 1048576
    · exact ⟨_, _, .inr (.inl ⟨h, h2, rfl, rfl⟩)⟩
    · exact ⟨_, _, .inr (.inr ⟨h, by omega, rfl, rfl⟩)⟩
  · exact ⟨_, _, .inl ⟨h, rfl, rfl⟩⟩
theorem LastIs.exists_ (ts : List T3) (ss : List S2) (n d : Int) : ∃ r q, LastIs ts ss n d r q := by
  by_cases h : d = 0
  · by_cases h2 : lastM ts ss n ≤ 0
    · exact ⟨_, _, .inr (.inl ⟨h, h2, rfl, rfl⟩)⟩
    · exact ⟨_, _, .inr (.inr ⟨h, by omega, rfl, rfl⟩)⟩
  · exact ⟨_, _, .inl ⟨h, rfl, rfl⟩⟩
end Go.Proofs.YtlhgpeelenelbaaDoor
