/- Contract of Holds. -/
import Derived.Test.YtlhgpeelenelbaaDoorC4
import Derived.Test.YtlhgpeelenelbaaDoorD6
namespace Go.Proofs.YtlhgpeelenelbaaDoor
open Go.RowKit

theorem Lot.has_lo {x : Lot} (h : x.ok) {n : Int} (hn : MOk n) : x.has n ↔ x.lo n ≤ n := by
  obtain ⟨s1, s2, s3⟩ := Lot.spec h n (by unfold MOk at hn; omega)
  obtain ⟨n0, n1⟩ := hn
  constructor
  · intro hh
    apply Classical.byContradiction
    intro c
    exact s2 n (Int.le_refl _) (by omega) n1 hh
  · intro c
    exact s3 n c s1 n1
theorem lot_from_T (p f l n : Int) (w : World) (h : TOk p f l) (hn : MOk n) : Calls Tryd.prog 81 #[.agg #[.int .i64 p, .int .i64 f, .int .i64 l], .int .i64 n] w fun e w' => e = .returned (.agg #[.int .i64 (Lot.lo ⟨true, p, f, l⟩ n), .int .i64 (Lot.hi ⟨true, p, f, l⟩ n)]) ∧ Below w.heap.size w w' :=
  from_any p f l n w h (by unfold MOk at hn; omega) (by unfold MOk at hn; omega)
theorem lot_from_S (a b c n : Int) (w : World) : Calls Tryd.prog 172 #[.agg #[.int .i64 a, .int .i64 b], .int .i64 n] w fun e w' => e = .returned (.agg #[.int .i64 (Lot.lo ⟨false, a, b, c⟩ n), .int .i64 (Lot.hi ⟨false, a, b, c⟩ n)]) ∧ Below w.heap.size w w' :=
  sfrom_any a b n w

set_option maxHeartbeats 2000000 in
set_option maxRecDepth 100000 in
theorem holds_ok (v : Value) (ts : List T3) (ss : List S2) (n : Int) (w : World) (h : RM w.heap.size v ts ss w) (hc : CheckIs ts ss 0) (hn : MOk n) :
    Calls Tryd.prog 17 #[v, .int .i64 n] w fun e w' => e = .returned (.tuple #[.bool (setB (lotsOf ts ss) n), .int .i64 0]) ∧ Below w.heap.size w w' := by
  have H := Lib.hid h
  obtain ⟨A, m, ca, A', m', ca', rfl, h1, h2⟩ := h
  have hok : ts.length ≤ 24 ∧ ss.length ≤ 40 ∧ AllOk ts ss := by
    rcases hc with ⟨_, h⟩ | ⟨h1, h2, h3, _⟩ | ⟨_, _, _, h⟩
    · omega
    · exact ⟨h1, h2, h3⟩
    · omega
  have C : Hid (∀ W, Below w.heap.size w W → w.heap.size ≤ W.heap.size → Calls Tryd.prog 67 #[.agg #[.slice A m ca, .slice A' m' ca'], .int .i64 n] W fun e w' => e = .returned (.int .i64 0) ∧ Below W.heap.size W w') :=
    Lib.hid fun W hb hs => checkAt_any _ ts ss n 0 0 W (H.out.up hs hb) hc (.inr (.inl ⟨rfl, hn, rfl⟩))
  have L : Hid (∀ W, Below w.heap.size w W → w.heap.size ≤ W.heap.size → Calls Tryd.prog 68 #[.agg #[.slice A m ca, .slice A' m' ca']] W (LotsPost ts ss W)) :=
    Lib.hid fun W hb hs => lots_any _ _ ts ss W (h1.up hs hb) (h2.up hs hb) hok.1 hok.2.1
  have HN := Lib.hid hn
  have OK := Lib.hid hok
  clear h1 h2 hc hn hok
  have BX := Lib.hid ((Below.refl w.heap.size w).alloc (Nat.le_refl _) (.cells #[.slice A m ca, .slice A' m' ca'] 25))
  have LN : (lotsOf ts ss).length = ts.length + ss.length := by simp [lotsOf]
  have LOK := Lib.hid (lotsOf_ok OK.out.2.2)
  have LV := Lib.hid (lotsF_val ts ss)
  obtain ⟨xs, hxs⟩ : ∃ xs, lotsOf ts ss = xs := ⟨_, rfl⟩
  rw [hxs] at LN LOK LV ⊢
  obtain ⟨r, hr⟩ : ∃ r, setB xs n = r := ⟨_, rfl⟩
  have HR := Lib.hid hr
  rw [hr]
  clear hr hxs
  go_enter Tryd.func17, Tryd.ntmps17
  go_wp2_with fail
  refine (C.out _ BX.out (by simp)).mono ?_
  rintro e w1 ⟨rfl, hb1⟩
  have hz1 : w.heap.size < w1.heap.size := by have := hb1.size; simp at this; omega
  have q0 : w1.cell? ⟨w.heap.size, 0, none⟩ = some (.slice A m ca) := (hb1.cell (p := ⟨w.heap.size, 0, none⟩) (by simp)).trans (by simp [go_sem])
  have q1 : w1.cell? ⟨w.heap.size, 1, none⟩ = some (.slice A' m' ca') := (hb1.cell (p := ⟨w.heap.size, 1, none⟩) (by simp)).trans (by simp [go_sem])
  have B1 := Lib.hid (BX.out.trans (hb1.mono (by simp)))
  clear hb1
  go_wp2_with fail
  refine (L.out _ B1.out (by omega)).mono ?_
  rintro e w2 ⟨lv, rfl, hown, hb2⟩
  have HO := Lib.hid hown
  have B2 := Lib.hid (B1.out.trans (hb2.mono (by omega)))
  have z2 := hb2.size
  clear hb2 q0 q1
  rw [LV.out] at hown HO
  obtain ⟨N, hNe⟩ : ∃ N, ts.length + ss.length = N := ⟨_, rfl⟩
  have hN64 : N ≤ 64 := by have := OK.out.1; have := OK.out.2.1; omega
  rw [hNe] at LN HO hown
  rcases hown.2 with ⟨rfl, h0⟩ | ⟨g, c, cur, rfl, hg, hblk, hnc, hcm, hcs, htk⟩
  · obtain rfl : xs = [] := List.length_eq_zero_iff.1 (by omega)
    obtain rfl : r = false := HR.out.symm
    subst h0
    go_wp2_with fail
    refine wp_loop_rounds 1 ?_
    rw [rounds_succ]
    go_wp2_with fail
    go_ret2
    exact ⟨rfl, B2.out⟩
  · have hlt : g < w2.heap.size := by
      rcases Nat.lt_or_ge g w2.heap.size with h | h
      · exact h
      · rw [Array.getElem?_eq_none h] at hblk; cases hblk
    have HC := Lib.hid fun j hj => World.ownsRow.cellAt HO.out j hj
    clear hown hblk hcs htk
    go_wp2_with fail
    have FT := Lib.hid (fun p f l W h => lot_from_T p f l n W h HN.out)
    have FS := Lib.hid (fun a b c W => lot_from_S a b c n W)
    have mT := m_from_T
    have mS := m_from_S
    have hf0 := fld0
    go_loopw [18] (fun v wr => ∃ k : Nat, v = .int .i64 k ∧ k ≤ N ∧ setB (xs.take k) n = false ∧ Below w2.heap.size w2 wr) (fun v _ => N - (intOf v).toNat)
    case atStart => exact ⟨0, rfl, by omega, rfl, Below.refl _ _⟩
    case round =>
      obtain ⟨k, rfl, hk, hno, hB⟩ := hrel
      have HB := Lib.hid hB
      have HNo := Lib.hid hno
      clear hB hno
      by_cases hkn : k < N
      · obtain ⟨x, hxk⟩ : ∃ x, xs[k]? = some x := ⟨_, List.getElem?_eq_getElem (by omega)⟩
        have hk0 : (k : Int) < (N : Int) := by omega
        have hcell : wr.cell? ⟨g, k, none⟩ = some x.val := (HB.out.cell (p := ⟨g, k, none⟩) hlt).trans ((HC.out k (by omega)).trans (by simp [hxk]))
        have hxo : x.ok := LOK.out x (List.mem_of_getElem? hxk)
        have hx2 := Lot.has_lo hxo HN.out
        have HT : Hid (setB (xs.take (k + 1)) n = x.hasB n) := Lib.hid (by
          obtain ⟨h1, rfl⟩ := List.getElem?_eq_some_iff.1 hxk
          rw [List.take_succ_eq_append_getElem h1, setB, List.any_append]
          rw [show (xs.take k).any (fun x => x.hasB n) = false from HNo.out]
          simp)
        have HX := Lib.hid (And.intro hxk (And.intro hxo hx2))
        clear hxk hxo hx2
        obtain ⟨kd, a, b, c'⟩ := x
        cases kd
        · have C2 := Lib.hid (FS.out a b c')
          have e1 : Lot.val ⟨false, a, b, c'⟩ = .iface 147 (.agg #[.int .i64 a, .int .i64 b]) := rfl
          rw [e1] at hcell
          obtain ⟨z, hz⟩ : ∃ z, Lot.lo ⟨false, a, b, c'⟩ n = z := ⟨_, rfl⟩
          obtain ⟨z2, hz2⟩ : ∃ z, Lot.hi ⟨false, a, b, c'⟩ n = z := ⟨_, rfl⟩
          rw [hz, hz2] at C2
          have HZ := Lib.hid hz
          clear hz hz2 e1
          by_cases cz : z ≤ n
          · have hr : r = true := by
              rw [← HR.out]
              exact (setB_iff xs n).2 ⟨_, List.mem_of_getElem? HX.out.1, HX.out.2.2.2 (by rw [HZ.out]; exact cz)⟩
            subst hr
            go_wp2_with fail
            refine (C2.out _).mono ?_
            rintro e w4 ⟨rfl, h4⟩
            have B4 := Lib.hid (B2.out.trans ((HB.out.mono (by omega)).trans (h4.mono (by have := HB.out.size; omega))))
            clear h4
            go_wp2_with fail
            go_ret2
            exact ⟨rfl, B4.out⟩
          · have hno : Lot.hasB ⟨false, a, b, c'⟩ n = false := by
              rw [Bool.eq_false_iff]
              intro hh
              exact cz (HZ.out ▸ HX.out.2.2.1 ((Lot.hasB_iff _ n).1 hh))
            have HF := Lib.hid (HT.out.trans hno)
            clear hno
            go_wp2_with fail
            refine (C2.out _).mono ?_
            rintro e w4 ⟨rfl, h4⟩
            have B4 := Lib.hid (HB.out.trans (h4.mono (by have := HB.out.size; omega)))
            clear h4
            go_wp2_with fail
            go_roundw
            case rel => exact ⟨k + 1, by go_num, by omega, HF.out, B4.out⟩
            case measure => show N - ((k : Int) + 1).toNat < N - (k : Int).toNat; omega
        · have C2 := Lib.hid (fun W => FT.out a b c' W (by have := HX.out.2.1; unfold Lot.ok at this; exact this))
          have e1 : Lot.val ⟨true, a, b, c'⟩ = .iface 105 (.agg #[.int .i64 a, .int .i64 b, .int .i64 c']) := rfl
          rw [e1] at hcell
          obtain ⟨z, hz⟩ : ∃ z, Lot.lo ⟨true, a, b, c'⟩ n = z := ⟨_, rfl⟩
          obtain ⟨z2, hz2⟩ : ∃ z, Lot.hi ⟨true, a, b, c'⟩ n = z := ⟨_, rfl⟩
          rw [hz, hz2] at C2
          have HZ := Lib.hid hz
          clear hz hz2 e1
          by_cases cz : z ≤ n
          · have hr : r = true := by
              rw [← HR.out]
              exact (setB_iff xs n).2 ⟨_, List.mem_of_getElem? HX.out.1, HX.out.2.2.2 (by rw [HZ.out]; exact cz)⟩
            subst hr
            go_wp2_with fail
            refine (C2.out _).mono ?_
            rintro e w4 ⟨rfl, h4⟩
            have B4 := Lib.hid (B2.out.trans ((HB.out.mono (by omega)).trans (h4.mono (by have := HB.out.size; omega))))
            clear h4
            go_wp2_with fail
            go_ret2
            exact ⟨rfl, B4.out⟩
          · have hno : Lot.hasB ⟨true, a, b, c'⟩ n = false := by
              rw [Bool.eq_false_iff]
              intro hh
              exact cz (HZ.out ▸ HX.out.2.2.1 ((Lot.hasB_iff _ n).1 hh))
            have HF := Lib.hid (HT.out.trans hno)
            clear hno
            go_wp2_with fail
            refine (C2.out _).mono ?_
            rintro e w4 ⟨rfl, h4⟩
            have B4 := Lib.hid (HB.out.trans (h4.mono (by have := HB.out.size; omega)))
            clear h4
            go_wp2_with fail
            go_roundw
            case rel => exact ⟨k + 1, by go_num, by omega, HF.out, B4.out⟩
            case measure => show N - ((k : Int) + 1).toNat < N - (k : Int).toNat; omega
      · have hk0 : (N : Int) ≤ (k : Int) := by omega
        have hr : r = false := by
          have := HNo.out
          rw [List.take_of_length_le (by omega)] at this
          rw [← HR.out]; exact this
        subst hr
        go_wp2_with fail
        go_ret2
        exact ⟨rfl, B2.out.trans (HB.out.mono (by omega))⟩
end Go.Proofs.YtlhgpeelenelbaaDoor

/- Contract of Holds, where there is an error; contracts of upTo of a span, of the closure of Last, of least at it. -/
namespace Go.Proofs.YtlhgpeelenelbaaDoor
open Go.RowKit

set_option maxHeartbeats 2000000 in
theorem holds_err (v : Value) (ts : List T3) (ss : List S2) (n c d : Int) (w : World) (h : RM w.heap.size v ts ss w) (hc : CheckIs ts ss c) (hd : AtIs c n d) (h0 : d ≠ 0) :
    Calls Tryd.prog 17 #[v, .int .i64 n] w fun e w' => e = .returned (.tuple #[.bool false, .int .i64 d]) ∧ Below w.heap.size w w' := by
  have H := Lib.hid h
  obtain ⟨A, m, ca, A', m', ca', rfl, h1, h2⟩ := h
  have C : Hid (∀ W, Below w.heap.size w W → w.heap.size ≤ W.heap.size → Calls Tryd.prog 67 #[.agg #[.slice A m ca, .slice A' m' ca'], .int .i64 n] W fun e w' => e = .returned (.int .i64 d) ∧ Below W.heap.size W w') :=
    Lib.hid fun W hb hs => checkAt_any _ ts ss n c d W (H.out.up hs hb) hc hd
  have hb0 : (d != 0) = true := by rw [bne_iff_ne]; exact h0
  clear h1 h2 hc hd h0
  have BX := Lib.hid ((Below.refl w.heap.size w).alloc (Nat.le_refl _) (.cells #[.slice A m ca, .slice A' m' ca'] 25))
  go_enter Tryd.func17, Tryd.ntmps17
  go_wp2_with fail
  refine (C.out _ BX.out (by simp)).mono ?_
  rintro e w1 ⟨rfl, hb1⟩
  have B1 := Lib.hid (BX.out.trans (hb1.mono (by simp)))
  clear hb1
  go_wp2_with fail
  go_ret2
  exact ⟨rfl, B1.out⟩
/-- What Holds returns. -/
theorem holds_any (v : Value) (ts : List T3) (ss : List S2) (n c d : Int) (w : World) (h : RM w.heap.size v ts ss w) (hc : CheckIs ts ss c) (hd : AtIs c n d) :
    Calls Tryd.prog 17 #[v, .int .i64 n] w fun e w' => e = .returned (.tuple #[.bool (decide (d = 0) && setB (lotsOf ts ss) n), .int .i64 d]) ∧ Below w.heap.size w w' := by
  by_cases h0 : d = 0
  · subst h0
    rcases hd with ⟨a, b⟩ | ⟨rfl, b, _⟩ | ⟨_, _, b⟩
    · exact absurd b.symm a
    · exact (holds_ok v ts ss n w h hc b).mono fun e w' ⟨he, hb⟩ => ⟨by rw [he]; simp, hb⟩
    · exact absurd b (by decide)
  · exact (holds_err v ts ss n c d w h hc hd h0).mono fun e w' ⟨he, hb⟩ => ⟨by rw [he]; simp [h0], hb⟩

/-- Where the run of a span up to n ends. -/
def sTo (lo hi n : Int) : Int := if n < lo then -1099511627776 else hi
def sToLo (lo n : Int) : Int := if n < lo then -1099511627776 else lo
set_option maxHeartbeats 1000000 in
theorem supTo_any (lo hi n : Int) (w : World) :
    Calls Tryd.prog 173 #[sv2 lo hi, .int .i64 n] w fun e w' => e = .returned (sv2 (sToLo lo n) (sTo lo hi n)) ∧ Below w.heap.size w w' := by
  have H1 : Hid (sToLo lo n = if n < lo then -1099511627776 else lo) := Lib.hid rfl
  have H2 : Hid (sTo lo hi n = if n < lo then -1099511627776 else hi) := Lib.hid rfl
  by_cases c : n < lo
  · go_enter Tryd.func173, Tryd.ntmps173
    go_wp2_with fail
    refine bodyPost_ret (v := sv2 (-1099511627776) (-1099511627776)) (by simp [results, Tryd.results173, go_sem]) rfl ⟨?_, ?_⟩
    · rw [H1.out, H2.out, if_pos c, if_pos c]
    · exact ((Below.refl _ _).alloc (Nat.le_refl _) _).alloc (by simp) _
  · go_enter Tryd.func173, Tryd.ntmps173
    go_wp2_with fail
    refine bodyPost_ret (v := sv2 lo hi) (by simp [results, Tryd.results173, go_sem]) rfl ⟨?_, ?_⟩
    · rw [H1.out, H2.out, if_neg (by omega), if_neg (by omega)]
    · exact ((Below.refl _ _).alloc (Nat.le_refl _) _).alloc (by simp) _
theorem m_upTo_T (p f l : Int) (w : World) : (method 292 105 (.agg #[.int .i64 p, .int .i64 f, .int .i64 l]) "drowner/turn.upTo").run Tryd.prog w = .ok (122, .agg #[.int .i64 p, .int .i64 f, .int .i64 l]) w := by kernel_rfl
theorem m_upTo_S (lo hi : Int) (w : World) : (method 292 147 (.agg #[.int .i64 lo, .int .i64 hi]) "drowner/turn.upTo").run Tryd.prog w = .ok (173, .agg #[.int .i64 lo, .int .i64 hi]) w := by kernel_rfl

/-- Where the run of a turn up to n ends. -/
def tTo (p f l n : Int) : Int := n - (n - f) % p + l - 1
theorem tTo_bd {p f l n : Int} (h : TOk p f l) (h3 : -1000000000000000 ≤ n) (h4 : n ≤ 1000000000000000) : -1000000000100000 ≤ tTo p f l n ∧ tTo p f l n ≤ 1000000000100000 := by
  obtain ⟨a1, a2, a3, a4, a5, a6⟩ := h
  have e1 : 0 ≤ (n - f) % p := Int.emod_nonneg _ (by omega)
  have e2 : (n - f) % p < p := Int.emod_lt_of_pos _ (by omega)
  unfold tTo
  omega
theorem sTo_bd {lo hi n : Int} (h : SOk lo hi) : -1099511627776 ≤ sTo lo hi n ∧ sTo lo hi n ≤ 1048576 := by
  obtain ⟨a1, a2, a3⟩ := h
  unfold sTo
  split <;> omega

set_option maxHeartbeats 1000000 in
set_option maxRecDepth 100000 in
theorem last1_T (p f l n : Int) (b : Nat) (w : World) (h : TOk p f l) (h3 : -1000000000000000 ≤ n) (h4 : n ≤ 1000000000000000) (hc : w.cell? ⟨b, 0, none⟩ = some (.int .i64 n)) (hb : b < w.heap.size) :
    Calls Tryd.prog 74 #[.iface 105 (tv p f l), .pointer (some ⟨b, 0, none⟩)] w fun e w' => e = .returned (.int .i64 (-(mn (tTo p f l n) n))) ∧ Below w.heap.size w w' := by
  have C : Hid (∀ w, Calls Tryd.prog 122 #[.agg #[.int .i64 p, .int .i64 f, .int .i64 l], .int .i64 n] w fun e w' => e = .returned (.agg #[.int .i64 (n - (n - f) % p), .int .i64 (tTo p f l n)]) ∧ Below w.heap.size w w') := Lib.hid fun w => upTo_any p f l n w h h3 h4
  obtain ⟨b1, b2⟩ := tTo_bd h h3 h4
  have HM : Hid (mn (tTo p f l n) n = if n < tTo p f l n then n else tTo p f l n) := Lib.hid rfl
  generalize tTo p f l n = z at *
  generalize n - (n - f) % p = z0 at *
  have hm := m_upTo_T p f l
  have hf1 := fld1
  by_cases c : n < z
  all_goals
    go_enter Tryd.func74, Tryd.ntmps74
    go_wp2_with fail
    go_region_held3 (fun W => W.cell? ⟨b, 0, none⟩ = some (.int .i64 n)) ((first | exact hc | exact hc4)) (first | (go_at_call 122; refine (C.out _).mono ?_; rintro e w4 ⟨rfl, h4⟩; have hc4 := (h4.cell (p := ⟨b, 0, none⟩) hb).trans hc; have B4 : Below w.heap.size w w4 := (Below.refl _ _).drew.trans h4))
    go_wp2_with fail
    go_ret
  · exact ⟨ret_int (by rw [HM.out, if_pos c]; exact IntWalk.i64_in _ ⟨by omega, by omega⟩), B4⟩
  · exact ⟨ret_int (by rw [HM.out, if_neg (by omega)]; exact IntWalk.i64_in _ ⟨by omega, by omega⟩), B4⟩

set_option maxHeartbeats 1000000 in
set_option maxRecDepth 100000 in
theorem last1_S (lo hi n : Int) (b : Nat) (w : World) (h : SOk lo hi) (h3 : -1000000000000000 ≤ n) (h4 : n ≤ 1000000000000000) (hc : w.cell? ⟨b, 0, none⟩ = some (.int .i64 n)) (hb : b < w.heap.size) :
    Calls Tryd.prog 74 #[.iface 147 (sv2 lo hi), .pointer (some ⟨b, 0, none⟩)] w fun e w' => e = .returned (.int .i64 (-(mn (sTo lo hi n) n))) ∧ Below w.heap.size w w' := by
  have C : Hid (∀ w, Calls Tryd.prog 173 #[.agg #[.int .i64 lo, .int .i64 hi], .int .i64 n] w fun e w' => e = .returned (.agg #[.int .i64 (sToLo lo n), .int .i64 (sTo lo hi n)]) ∧ Below w.heap.size w w') := Lib.hid fun w => supTo_any lo hi n w
  obtain ⟨b1, b2⟩ := sTo_bd (n := n) h
  have HM : Hid (mn (sTo lo hi n) n = if n < sTo lo hi n then n else sTo lo hi n) := Lib.hid rfl
  generalize sTo lo hi n = z at *
  have hm := m_upTo_S lo hi
  have hf1 := fld1
  by_cases c : n < z
  all_goals
    go_enter Tryd.func74, Tryd.ntmps74
    go_wp2_with fail
    go_region_held3 (fun W => W.cell? ⟨b, 0, none⟩ = some (.int .i64 n)) ((first | exact hc | exact hc4)) (first | (go_at_call 173; refine (C.out _).mono ?_; rintro e w4 ⟨rfl, h4⟩; have hc4 := (h4.cell (p := ⟨b, 0, none⟩) hb).trans hc; have B4 : Below w.heap.size w w4 := (Below.refl _ _).drew.trans h4))
    go_wp2_with fail
    go_ret
  · exact ⟨ret_int (by rw [HM.out, if_pos c]; exact IntWalk.i64_in _ ⟨by omega, by omega⟩), B4⟩
  · exact ⟨ret_int (by rw [HM.out, if_neg (by omega)]; exact IntWalk.i64_in _ ⟨by omega, by omega⟩), B4⟩

set_option maxHeartbeats 2000000 in
set_option maxRecDepth 100000 in
theorem leastLast_any (cap v : Value) (base n : Nat) (xs : List Value) (ns : List Int) (w : World) (hn : ns.length = n) (hx : xs.length = n) (hrow : w.ownsRow base 96 1 v n xs) (hmax : n ≤ 100)
    (hF : ∀ (k : Nat) (x : Value) (m : Int) (W : World), xs[k]? = some x → ns[k]? = some m → Below w.heap.size w W → Calls Tryd.prog 74 #[x, cap] W fun e w' => e = .returned (.int .i64 m) ∧ Below W.heap.size W w') :
    Calls Tryd.prog 71 #[v, .func (.func 74) #[] #[cap]] w fun e w' => e = .returned (.int .i64 (ns.foldl mn 1099511627776)) ∧ Below w.heap.size w w' := by
  have HF := Lib.hid hF
  have HR := Lib.hid hrow
  clear hF
  rcases hrow.2 with ⟨rfl, h0⟩ | ⟨g, c, cur, rfl, hg, hblk, hnc, hcm, hcs, htk⟩
  · subst h0
    clear hrow
    obtain rfl : ns = [] := List.length_eq_zero_iff.1 hn
    go_enter Tryd.func71, Tryd.ntmps71
    go_wp2_with fail
    refine wp_loop_rounds 1 ?_
    rw [rounds_succ]
    go_wp2_with fail
    go_ret
    exact ⟨rfl, Below.refl _ _⟩
  · have hlt : g < w.heap.size := by
      rcases Nat.lt_or_ge g w.heap.size with h | h
      · exact h
      · rw [Array.getElem?_eq_none h] at hblk; cases hblk
    have HC := Lib.hid fun j hj => World.ownsRow.cellAt HR.out j hj
    clear hrow hblk hcs htk
    go_enter Tryd.func71, Tryd.ntmps71
    go_wp2_with fail
    go_loopw [5, 10] (fun u v wr => ∃ k : Nat, v = .int .i64 k ∧ k ≤ n ∧ u = .int .i64 ((ns.take k).foldl mn 1099511627776) ∧ Below w.heap.size w wr) (fun _ v _ => n - (intOf v).toNat)
    case atStart => exact ⟨0, rfl, by omega, rfl, Below.refl _ _⟩
    case round =>
      obtain ⟨k, rfl, hk, rfl, hB⟩ := hrel
      have HB := Lib.hid hB
      clear hB
      by_cases hkn : k < n
      · obtain ⟨x, hxk⟩ : ∃ x, xs[k]? = some x := ⟨_, List.getElem?_eq_getElem (by omega)⟩
        obtain ⟨m, hmk⟩ : ∃ m, ns[k]? = some m := ⟨_, List.getElem?_eq_getElem (by omega)⟩
        have hk0 : (k : Int) < (n : Int) := by omega
        have hcell : wr.cell? ⟨g, k, none⟩ = some x := (HB.out.cell (p := ⟨g, k, none⟩) hlt).trans ((HC.out k (by omega)).trans hxk)
        have C := Lib.hid fun W h => HF.out k x m W hxk hmk h
        have HT : Hid ((ns.take (k + 1)).foldl mn 1099511627776 = mn ((ns.take k).foldl mn 1099511627776) m) := Lib.hid (by
          obtain ⟨h1, rfl⟩ := List.getElem?_eq_some_iff.1 hmk
          rw [List.take_succ_eq_append_getElem h1, List.foldl_append]; rfl)
        generalize (ns.take k).foldl mn 1099511627776 = acc at *
        clear hxk hmk
        go_wp2_with fail
        refine (C.out _ HB.out).mono ?_
        rintro e w4 ⟨rfl, h4⟩
        have B4 := Lib.hid (HB.out.trans (h4.mono (by have := HB.out.size; omega)))
        clear h4
        by_cases c' : m < acc
        all_goals
          go_wp2_with fail
          go_roundw
        · exact ⟨k + 1, by go_num, by omega, by rw [HT.out, mn, if_pos c'], B4.out⟩
        · show n - ((k : Int) + 1).toNat < n - (k : Int).toNat; omega
        · exact ⟨k + 1, by go_num, by omega, by rw [HT.out, mn, if_neg (by omega)], B4.out⟩
        · show n - ((k : Int) + 1).toNat < n - (k : Int).toNat; omega
      · have hk0 : (n : Int) ≤ (k : Int) := by omega
        have HE : Hid ((ns.take k).foldl mn 1099511627776 = ns.foldl mn 1099511627776) := Lib.hid (by rw [List.take_of_length_le (by omega)])
        generalize (ns.take k).foldl mn 1099511627776 = acc at *
        go_wp2_with fail
        go_ret
        exact ⟨ret_int HE.out, HB.out⟩
end Go.Proofs.YtlhgpeelenelbaaDoor

/- Contract of Last. -/
namespace Go.Proofs.YtlhgpeelenelbaaDoor
open Go.RowKit

/-- The numbers of which Last takes the least. -/
def lastNs (ts : List T3) (ss : List S2) (n : Int) : List Int := ts.map (fun t => -(mn (tTo t.1 t.2.1 t.2.2 n) n)) ++ ss.map (fun s => -(mn (sTo s.1 s.2 n) n))
def lastM (ts : List T3) (ss : List S2) (n : Int) : Int := (lastNs ts ss n).foldl mn 1099511627776
/-- What Last returns. -/
def LastIs (ts : List T3) (ss : List S2) (n d r c : Int) : Prop :=
  (d ≠ 0 ∧ r = 0 ∧ c = d) ∨ (d = 0 ∧ lastM ts ss n ≤ 0 ∧ r = -lastM ts ss n ∧ c = 0) ∨ (d = 0 ∧ 0 < lastM ts ss n ∧ r = 0 ∧ c = 5)
theorem foldl_mn_ge : ∀ (l : List Int) (a b : Int), b ≤ a → (∀ x ∈ l, b ≤ x) → b ≤ l.foldl mn a
  | [], _, _, h, _ => h
  | x :: l, a, b, h, hx => by
    refine foldl_mn_ge l (mn a x) b ?_ fun y hy => hx y (List.mem_cons_of_mem _ hy)
    have := hx x (List.mem_cons_self ..)
    unfold mn; split <;> omega
theorem lastM_bd {ts : List T3} {ss : List S2} {n : Int} (hn : MOk n) : -1048576 ≤ lastM ts ss n ∧ lastM ts ss n ≤ 1099511627776 := by
  refine ⟨foldl_mn_ge _ _ _ (by omega) fun x hx => ?_, (foldl_mn_le _ _).1⟩
  obtain ⟨n0, n1⟩ := hn
  have hm : ∀ a, mn a n ≤ n := fun a => by unfold mn; split <;> omega
  rcases List.mem_append.1 hx with hx | hx
  · obtain ⟨t, _, rfl⟩ := List.mem_map.1 hx; have := hm (tTo t.1 t.2.1 t.2.2 n); omega
  · obtain ⟨s, _, rfl⟩ := List.mem_map.1 hx; have := hm (sTo s.1 s.2 n); omega

theorem last_elem {ts : List T3} {ss : List S2} {n : Int} (h : AllOk ts ss) (hn : MOk n) {b : Nat} (k : Nat) (x : Value) (m : Int) (W : World) (hx : (lotsF ts ss)[k]? = some x) (hm : (lastNs ts ss n)[k]? = some m)
    (hc : W.cell? ⟨b, 0, none⟩ = some (.int .i64 n)) (hb : b < W.heap.size) :
    Calls Tryd.prog 74 #[x, .pointer (some ⟨b, 0, none⟩)] W fun e w' => e = .returned (.int .i64 m) ∧ Below W.heap.size W w' := by
  obtain ⟨n0, n1⟩ := hn
  unfold lotsF at hx
  unfold lastNs at hm
  by_cases hk : k < ts.length
  · rw [List.getElem?_append_left (by simpa using hk), List.getElem?_map, List.getElem?_eq_getElem hk] at hx hm
    simp only [Option.map_some, Option.some.injEq] at hx hm
    subst hx hm
    exact last1_T _ _ _ n b W (h.1 _ (List.getElem_mem hk)) (by omega) (by omega) hc hb
  · rw [List.getElem?_append_right (by simp; omega), List.getElem?_map] at hx hm
    simp only [List.length_map] at hx hm
    cases hs : ss[k - ts.length]? with
    | none => rw [hs] at hx; cases hx
    | some s =>
      rw [hs] at hx hm
      simp only [Option.map_some, Option.some.injEq] at hx hm
      subst hx hm
      exact last1_S s.1 s.2 n b W (h.2 _ (List.mem_of_getElem? hs)) (by omega) (by omega) hc hb

set_option maxHeartbeats 2000000 in
set_option maxRecDepth 100000 in
theorem last_any (v : Value) (ts : List T3) (ss : List S2) (n c d r q : Int) (w : World) (h : RM w.heap.size v ts ss w) (hc : CheckIs ts ss c) (hd : AtIs c n d) (hr : LastIs ts ss n d r q) :
    Calls Tryd.prog 21 #[v, .int .i64 n] w fun e w' => e = .returned (.tuple #[.int .i64 r, .int .i64 q]) ∧ Below w.heap.size w w' := by
  have H := Lib.hid h
  obtain ⟨A, m, ca, A', m', ca', rfl, h1, h2⟩ := h
  have C : Hid (∀ W, Below w.heap.size w W → w.heap.size ≤ W.heap.size → Calls Tryd.prog 67 #[.agg #[.slice A m ca, .slice A' m' ca'], .int .i64 n] W fun e w' => e = .returned (.int .i64 d) ∧ Below W.heap.size W w') :=
    Lib.hid fun W hb hs => checkAt_any _ ts ss n c d W (H.out.up hs hb) hc hd
  have L : Hid (∀ W, Below w.heap.size w W → w.heap.size ≤ W.heap.size → ts.length ≤ 24 → ss.length ≤ 40 → Calls Tryd.prog 68 #[.agg #[.slice A m ca, .slice A' m' ca']] W (LotsPost ts ss W)) :=
    Lib.hid fun W hb hs k1 k2 => lots_any _ _ ts ss W (h1.up hs hb) (h2.up hs hb) k1 k2
  clear h1 h2
  have BX := Lib.hid (below_two w (.cells #[.slice A m ca, .slice A' m' ca'] 25) (.cells #[.int .i64 n] 3))
  by_cases h0 : d = 0
  · subst h0
    have hok : ts.length ≤ 24 ∧ ss.length ≤ 40 ∧ AllOk ts ss ∧ MOk n := by
      rcases hd with ⟨a, b⟩ | ⟨a, b, _⟩ | ⟨a, b, e⟩
      · omega
      · rcases hc with ⟨_, e⟩ | ⟨e1, e2, e3, _⟩ | ⟨_, _, _, e⟩
        · omega
        · exact ⟨e1, e2, e3, b⟩
        · omega
      · omega
    have OK := Lib.hid hok
    have hr' : (lastM ts ss n ≤ 0 ∧ r = -lastM ts ss n ∧ q = 0) ∨ (0 < lastM ts ss n ∧ r = 0 ∧ q = 5) := by
      rcases hr with ⟨a, _⟩ | ⟨_, a⟩ | ⟨_, a⟩
      · exact absurd rfl a
      · exact .inl a
      · exact .inr a
    clear hr hd hc hok
    have E := Lib.hid fun (b : Nat) k x m W => @last_elem ts ss n OK.out.2.2.1 OK.out.2.2.2 b k x m W
    have HM : Hid ((lastNs ts ss n).foldl mn 1099511627776 = lastM ts ss n) := Lib.hid rfl
    obtain ⟨bd0, bd1⟩ := lastM_bd (ts := ts) (ss := ss) OK.out.2.2.2
    generalize lastM ts ss n = M at *
    go_enter Tryd.func21, Tryd.ntmps21
    go_wp2_with fail
    refine (C.out _ BX.out BX.out.size).mono ?_
    rintro e w1 ⟨rfl, hb1⟩
    obtain ⟨hcl, hfz⟩ := bcell hb1
    have hz1 : w.heap.size + 1 < w1.heap.size := by have := hb1.size; simp at this; omega
    have hz0 : w.heap.size < w1.heap.size := by omega
    have q0 : w1.cell? ⟨w.heap.size, 0, none⟩ = some (.slice A m ca) := by rw [hcl _ _ (by simp [go_sem])]; simp [go_sem]
    have q1 : w1.cell? ⟨w.heap.size, 1, none⟩ = some (.slice A' m' ca') := by rw [hcl _ _ (by simp [go_sem])]; simp [go_sem]
    have q2 : w1.cell? ⟨w.heap.size + 1, 0, none⟩ = some (.int .i64 n) := by rw [hcl _ _ (by simp [go_sem])]; simp [go_sem]
    have Q2 := Lib.hid q2
    have B1 := Lib.hid (BX.out.trans (hb1.mono (by simp; omega)))
    clear hb1 hcl hfz
    go_wp2_with fail
    refine (L.out _ B1.out B1.out.size OK.out.1 OK.out.2.1).mono ?_
    rintro e w2 ⟨lv, rfl, hown, hb2⟩
    have HO := Lib.hid hown
    have B2 := Lib.hid hb2
    have z2 := hb2.size
    clear hown hb2 q0 q1 q2
    go_wp2_with fail
    have z3 : w.heap.size + 1 < w2.heap.size := by omega
    refine (leastLast_any (.pointer (some ⟨w.heap.size + 1, 0, none⟩)) lv (w1.heap.size + 1) (ts.length + ss.length) (lotsF ts ss) (lastNs ts ss n) w2 (by simp [lastNs]) (by simp [lotsF]) HO.out (by have := OK.out.1; have := OK.out.2.1; omega) (fun k x m2 W hx hm hB => E.out _ k x m2 W hx hm ((hB.cell (p := ⟨w.heap.size + 1, 0, none⟩) z3).trans ((B2.out.cell (p := ⟨w.heap.size + 1, 0, none⟩) hz1).trans Q2.out)) (by have := hB.size; omega))).mono ?_
    rintro e w3 ⟨rfl, hb3⟩
    rw [HM.out]
    have B3 := Lib.hid (B1.out.trans ((B2.out.mono (by omega)).trans (hb3.mono (by omega))))
    clear hb3
    rcases hr' with ⟨k1, rfl, rfl⟩ | ⟨k1, rfl, rfl⟩
    · go_wp2_with fail
      go_ret2
      exact ⟨rfl, B3.out⟩
    · go_wp2_with fail
      go_ret2
      exact ⟨rfl, B3.out⟩
  · have hr' : r = 0 ∧ q = d := by
      rcases hr with ⟨_, a, b⟩ | ⟨a, _⟩ | ⟨a, _⟩
      · exact ⟨a, b⟩
      · exact absurd a h0
      · exact absurd a h0
    obtain ⟨rfl, rfl⟩ := hr'
    have hb0 : (q != 0) = true := by rw [bne_iff_ne]; exact h0
    clear h0 hr hd hc L
    go_enter Tryd.func21, Tryd.ntmps21
    go_wp2_with fail
    refine (C.out _ BX.out BX.out.size).mono ?_
    rintro e w1 ⟨rfl, hb1⟩
    have B1 := Lib.hid (BX.out.trans (hb1.mono (by simp; omega)))
    clear hb1
    go_wp2_with fail
    go_ret2
    exact ⟨rfl, B1.out⟩
end Go.Proofs.YtlhgpeelenelbaaDoor
