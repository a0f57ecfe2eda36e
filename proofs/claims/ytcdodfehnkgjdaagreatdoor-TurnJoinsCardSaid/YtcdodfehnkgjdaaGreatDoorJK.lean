/- Contract of Holds. -/
import Derived.Test.YtcdodfehnkgjdaaGreatDoorC4
import Derived.Test.YtcdodfehnkgjdaaGreatDoorD6
import Derived.Test.YtcdodfehnkgjdaaGreatDoorB1
namespace Go.Proofs.YtcdodfehnkgjdaaGreatDoor
open Go.RowKit

theorem Lot.has_lo {x : Lot} (h : x.ok) {n : Int} (hn : MOk n) : x.has n ↔ x.lo n ≤ n := by
  obtain ⟨s1, s2, s3⟩ := Lot.spec h n (by unfold MOk at hn; omega)
  obtain ⟨n0, n1⟩ := hn
  constructor
  · intro hh
    apply Classical.byContradiction
    intro c
    exact s2 n (Int.le_refl _) (by omega) n1 hh
  · intro c
    exact s3 n c s1 n1
theorem lot_from_T (p f l n : Int) (w : World) (h : TOk p f l) (hn : MOk n) : Calls Tryz.prog 49 #[.agg #[.int .i64 p, .int .i64 f, .int .i64 l], .int .i64 n] w fun e w' => e = .returned (.agg #[.int .i64 (Lot.lo ⟨true, p, f, l⟩ n), .int .i64 (Lot.hi ⟨true, p, f, l⟩ n)]) ∧ Below w.heap.size w w' :=
  from_any p f l n w h (by unfold MOk at hn; omega) (by unfold MOk at hn; omega)
theorem lot_from_S (a b c n : Int) (w : World) : Calls Tryz.prog 138 #[.agg #[.int .i64 a, .int .i64 b], .int .i64 n] w fun e w' => e = .returned (.agg #[.int .i64 (Lot.lo ⟨false, a, b, c⟩ n), .int .i64 (Lot.hi ⟨false, a, b, c⟩ n)]) ∧ Below w.heap.size w w' :=
  sfrom_any a b n w

set_option maxHeartbeats 2000000 in
set_option maxRecDepth 100000 in
theorem holds_ok (v : Value) (ts : List T3) (ss : List S2) (n : Int) (w : World) (h : RM w.heap.size v ts ss w) (hc : CheckIs ts ss 0) (hn : MOk n) :
    Calls Tryz.prog 41 #[v, .int .i64 n] w fun e w' => e = .returned (.tuple #[.bool (setB (lotsOf ts ss) n), .int .i64 0]) ∧ Below w.heap.size w w' := by
  have H := Lib.hid h
  obtain ⟨A, m, ca, A', m', ca', rfl, h1, h2⟩ := h
  have hok : ts.length ≤ 24 ∧ ss.length ≤ 40 ∧ AllOk ts ss := by
    rcases hc with ⟨_, h⟩ | ⟨h1, h2, h3, _⟩ | ⟨_, _, _, h⟩
    · omega
    · exact ⟨h1, h2, h3⟩
    · omega
  have C : Hid (∀ W, Below w.heap.size w W → w.heap.size ≤ W.heap.size → Calls Tryz.prog 42 #[.agg #[.slice A m ca, .slice A' m' ca'], .int .i64 n] W fun e w' => e = .returned (.int .i64 0) ∧ Below W.heap.size W w') :=
    Lib.hid fun W hb hs => checkAt_any _ ts ss n 0 0 W (H.out.up hs hb) hc (.inr (.inl ⟨rfl, hn, rfl⟩))
  have L : Hid (∀ W, Below w.heap.size w W → w.heap.size ≤ W.heap.size → Calls Tryz.prog 44 #[.agg #[.slice A m ca, .slice A' m' ca']] W (LotsPost ts ss W)) :=
    Lib.hid fun W hb hs => lots_any _ _ ts ss W (h1.up hs hb) (h2.up hs hb) hok.1 hok.2.1
  have HN := Lib.hid hn
  have OK := Lib.hid hok
  clear h1 h2 hc hn hok
  have BX := Lib.hid ((Below.refl w.heap.size w).alloc (Nat.le_refl _) (.cells #[.slice A m ca, .slice A' m' ca'] 25))
  have LN : (lotsOf ts ss).length = ts.length + ss.length := by simp [lotsOf]
  have LOK := Lib.hid (lotsOf_ok OK.out.2.2)
  have LV := Lib.hid (lotsF_val ts ss)
  obtain ⟨xs, hxs⟩ : ∃ xs, lotsOf ts ss = xs := ⟨_, rfl⟩
  rw [hxs] at LN LOK LV ⊢
  obtain ⟨r, hr⟩ : ∃ r, setB xs n = r := ⟨_, rfl⟩
  have HR := Lib.hid hr
  rw [hr]
  clear hr hxs
  go_enter Tryz.func41, Tryz.ntmps41
  go_wp2_with fail
  refine (C.out _ BX.out (by simp)).mono ?_
  rintro e w1 ⟨rfl, hb1⟩
  have hz1 : w.heap.size < w1.heap.size := by have := hb1.size; simp at this; omega
  have q0 : w1.cell? ⟨w.heap.size, 0, none⟩ = some (.slice A m ca) := (hb1.cell (p := ⟨w.heap.size, 0, none⟩) (by simp)).trans (by simp [go_sem])
  have q1 : w1.cell? ⟨w.heap.size, 1, none⟩ = some (.slice A' m' ca') := (hb1.cell (p := ⟨w.heap.size, 1, none⟩) (by simp)).trans (by simp [go_sem])
  have B1 := Lib.hid (BX.out.trans (hb1.mono (by simp)))
  clear hb1
  go_wp2_with fail
  refine (L.out _ B1.out (by omega)).mono ?_
  rintro e w2 ⟨lv, rfl, hown, hb2⟩
  have HO := Lib.hid hown
  have B2 := Lib.hid (B1.out.trans (hb2.mono (by omega)))
  have z2 := hb2.size
  clear hb2 q0 q1
  rw [LV.out] at hown HO
  obtain ⟨N, hNe⟩ : ∃ N, ts.length + ss.length = N := ⟨_, rfl⟩
  have hN64 : N ≤ 64 := by have := OK.out.1; have := OK.out.2.1; omega
  rw [hNe] at LN HO hown
  rcases hown.2 with ⟨rfl, h0⟩ | ⟨g, c, cur, rfl, hg, hblk, hnc, hcm, hcs, htk⟩
  · obtain rfl : xs = [] := List.length_eq_zero_iff.1 (by omega)
    obtain rfl : r = false := HR.out.symm
    subst h0
    go_wp2_with fail
    refine wp_loop_rounds 1 ?_
    rw [rounds_succ]
    go_wp2_with fail
    go_ret2
    exact ⟨rfl, B2.out⟩
  · have hlt : g < w2.heap.size := by
      rcases Nat.lt_or_ge g w2.heap.size with h | h
      · exact h
      · rw [Array.getElem?_eq_none h] at hblk; cases hblk
    have HC := Lib.hid fun j hj => World.ownsRow.cellAt HO.out j hj
    clear hown hblk hcs htk
    go_wp2_with fail
    have FT := Lib.hid (fun p f l W h => lot_from_T p f l n W h HN.out)
    have FS := Lib.hid (fun a b c W => lot_from_S a b c n W)
    have mT := m_from_T
    have mS := m_from_S
    have hf0 := fld0
    go_loopw [18] (fun v wr => ∃ k : Nat, v = .int .i64 k ∧ k ≤ N ∧ setB (xs.take k) n = false ∧ Below w2.heap.size w2 wr) (fun v _ => N - (intOf v).toNat)
    case atStart => exact ⟨0, rfl, by omega, rfl, Below.refl _ _⟩
    case round =>
      obtain ⟨k, rfl, hk, hno, hB⟩ := hrel
      have HB := Lib.hid hB
      have HNo := Lib.hid hno
      clear hB hno
      by_cases hkn : k < N
      · obtain ⟨x, hxk⟩ : ∃ x, xs[k]? = some x := ⟨_, List.getElem?_eq_getElem (by omega)⟩
        have hk0 : (k : Int) < (N : Int) := by omega
        have hcell : wr.cell? ⟨g, k, none⟩ = some x.val := (HB.out.cell (p := ⟨g, k, none⟩) hlt).trans ((HC.out k (by omega)).trans (by simp [hxk]))
        have hxo : x.ok := LOK.out x (List.mem_of_getElem? hxk)
        have hx2 := Lot.has_lo hxo HN.out
        have HT : Hid (setB (xs.take (k + 1)) n = x.hasB n) := Lib.hid (by
          obtain ⟨h1, rfl⟩ := List.getElem?_eq_some_iff.1 hxk
          rw [List.take_succ_eq_append_getElem h1, setB, List.any_append]
          rw [show (xs.take k).any (fun x => x.hasB n) = false from HNo.out]
          simp)
        have HX := Lib.hid (And.intro hxk (And.intro hxo hx2))
        clear hxk hxo hx2
        obtain ⟨kd, a, b, c'⟩ := x
        cases kd
        · have C2 := Lib.hid (FS.out a b c')
          have e1 : Lot.val ⟨false, a, b, c'⟩ = .iface 121 (.agg #[.int .i64 a, .int .i64 b]) := rfl
          rw [e1] at hcell
          obtain ⟨z, hz⟩ : ∃ z, Lot.lo ⟨false, a, b, c'⟩ n = z := ⟨_, rfl⟩
          obtain ⟨z2, hz2⟩ : ∃ z, Lot.hi ⟨false, a, b, c'⟩ n = z := ⟨_, rfl⟩
          rw [hz, hz2] at C2
          have HZ := Lib.hid hz
          clear hz hz2 e1
          by_cases cz : z ≤ n
          · have hr : r = true := by
              rw [← HR.out]
              exact (setB_iff xs n).2 ⟨_, List.mem_of_getElem? HX.out.1, HX.out.2.2.2 (by rw [HZ.out]; exact cz)⟩
            subst hr
            go_wp2_with fail
            refine (C2.out _).mono ?_
            rintro e w4 ⟨rfl, h4⟩
            have B4 := Lib.hid (B2.out.trans ((HB.out.mono (by omega)).trans (h4.mono (by have := HB.out.size; omega))))
            clear h4
            go_wp2_with fail
            go_ret2
            exact ⟨rfl, B4.out⟩
          · have hno : Lot.hasB ⟨false, a, b, c'⟩ n = false := by
              rw [Bool.eq_false_iff]
              intro hh
              exact cz (HZ.out ▸ HX.out.2.2.1 ((Lot.hasB_iff _ n).1 hh))
            have HF := Lib.hid (HT.out.trans hno)
            clear hno
            go_wp2_with fail
            refine (C2.out _).mono ?_
            rintro e w4 ⟨rfl, h4⟩
            have B4 := Lib.hid (HB.out.trans (h4.mono (by have := HB.out.size; omega)))
            clear h4
            go_wp2_with fail
            go_roundw
            case rel => exact ⟨k + 1, by go_num, by omega, HF.out, B4.out⟩
            case measure => show N - ((k : Int) + 1).toNat < N - (k : Int).toNat; omega
        · have C2 := Lib.hid (fun W => FT.out a b c' W (by have := HX.out.2.1; unfold Lot.ok at this; exact this))
          have e1 : Lot.val ⟨true, a, b, c'⟩ = .iface 85 (.agg #[.int .i64 a, .int .i64 b, .int .i64 c']) := rfl
          rw [e1] at hcell
          obtain ⟨z, hz⟩ : ∃ z, Lot.lo ⟨true, a, b, c'⟩ n = z := ⟨_, rfl⟩
          obtain ⟨z2, hz2⟩ : ∃ z, Lot.hi ⟨true, a, b, c'⟩ n = z := ⟨_, rfl⟩
          rw [hz, hz2] at C2
          have HZ := Lib.hid hz
          clear hz hz2 e1
          by_cases cz : z ≤ n
          · have hr : r = true := by
              rw [← HR.out]
              exact (setB_iff xs n).2 ⟨_, List.mem_of_getElem? HX.out.1, HX.out.2.2.2 (by rw [HZ.out]; exact cz)⟩
            subst hr
            go_wp2_with fail
            refine (C2.out _).mono ?_
            rintro e w4 ⟨rfl, h4⟩
            have B4 := Lib.hid (B2.out.trans ((HB.out.mono (by omega)).trans (h4.mono (by have := HB.out.size; omega))))
            clear h4
            go_wp2_with fail
            go_ret2
            exact ⟨rfl, B4.out⟩
          · have hno : Lot.hasB ⟨true, a, b, c'⟩ n = false := by
              rw [Bool.eq_false_iff]
              intro hh
              exact cz (HZ.out ▸ HX.out.2.2.1 ((Lot.hasB_iff _ n).1 hh))
            have HF := Lib.hid (HT.out.trans hno)
            clear hno
            go_wp2_with fail
            refine (C2.out _).mono ?_
            rintro e w4 ⟨rfl, h4⟩
            have B4 := Lib.hid (HB.out.trans (h4.mono (by have := HB.out.size; omega)))
            clear h4
            go_wp2_with fail
            go_roundw
            case rel => exact ⟨k + 1, by go_num, by omega, HF.out, B4.out⟩
            case measure => show N - ((k : Int) + 1).toNat < N - (k : Int).toNat; omega
      · have hk0 : (N : Int) ≤ (k : Int) := by omega
        have hr : r = false := by
          have := HNo.out
          rw [List.take_of_length_le (by omega)] at this
          rw [← HR.out]; exact this
        subst hr
        go_wp2_with fail
        go_ret2
        exact ⟨rfl, B2.out.trans (HB.out.mono (by omega))⟩
end Go.Proofs.YtcdodfehnkgjdaaGreatDoor

/- Contract of Holds, where there is an error; contracts of upTo of a span, of the closure of Last, of least at it. -/
namespace Go.Proofs.YtcdodfehnkgjdaaGreatDoor
open Go.RowKit

set_option maxHeartbeats 2000000 in
theorem holds_err (v : Value) (ts : List T3) (ss : List S2) (n c d : Int) (w : World) (h : RM w.heap.size v ts ss w) (hc : CheckIs ts ss c) (hd : AtIs c n d) (h0 : d ≠ 0) :
    Calls Tryz.prog 41 #[v, .int .i64 n] w fun e w' => e = .returned (.tuple #[.bool false, .int .i64 d]) ∧ Below w.heap.size w w' := by
  have H := Lib.hid h
  obtain ⟨A, m, ca, A', m', ca', rfl, h1, h2⟩ := h
  have C : Hid (∀ W, Below w.heap.size w W → w.heap.size ≤ W.heap.size → Calls Tryz.prog 42 #[.agg #[.slice A m ca, .slice A' m' ca'], .int .i64 n] W fun e w' => e = .returned (.int .i64 d) ∧ Below W.heap.size W w') :=
    Lib.hid fun W hb hs => checkAt_any _ ts ss n c d W (H.out.up hs hb) hc hd
  have hb0 : (d != 0) = true := by rw [bne_iff_ne]; exact h0
  clear h1 h2 hc hd h0
  have BX := Lib.hid ((Below.refl w.heap.size w).alloc (Nat.le_refl _) (.cells #[.slice A m ca, .slice A' m' ca'] 25))
  go_enter Tryz.func41, Tryz.ntmps41
  go_wp2_with fail
  refine (C.out _ BX.out (by simp)).mono ?_
  rintro e w1 ⟨rfl, hb1⟩
  have B1 := Lib.hid (BX.out.trans (hb1.mono (by simp)))
  clear hb1
  go_wp2_with fail
  go_ret2
  exact ⟨rfl, B1.out⟩
/-- What Holds returns. -/
theorem holds_any (v : Value) (ts : List T3) (ss : List S2) (n c d : Int) (w : World) (h : RM w.heap.size v ts ss w) (hc : CheckIs ts ss c) (hd : AtIs c n d) :
    Calls Tryz.prog 41 #[v, .int .i64 n] w fun e w' => e = .returned (.tuple #[.bool (decide (d = 0) && setB (lotsOf ts ss) n), .int .i64 d]) ∧ Below w.heap.size w w' := by
  by_cases h0 : d = 0
  · subst h0
    rcases hd with ⟨a, b⟩ | ⟨rfl, b, _⟩ | ⟨_, _, b⟩
    · exact absurd b.symm a
    · exact (holds_ok v ts ss n w h hc b).mono fun e w' ⟨he, hb⟩ => ⟨by rw [he]; simp, hb⟩
    · exact absurd b (by decide)
  · exact (holds_err v ts ss n c d w h hc hd h0).mono fun e w' ⟨he, hb⟩ => ⟨by rw [he]; simp [h0], hb⟩

/-- Where the run of a span up to n ends. -/
def sTo (lo hi n : Int) : Int := if n < lo then -1099511627776 else hi
def sToLo (lo n : Int) : Int := if n < lo then -1099511627776 else lo
theorem m_upTo_T (p f l : Int) (w : World) : (method 288 85 (.agg #[.int .i64 p, .int .i64 f, .int .i64 l]) "drowner/turn.upTo").run Tryz.prog w = .ok (72, .agg #[.int .i64 p, .int .i64 f, .int .i64 l]) w := by kernel_rfl
/-- Where the run of a turn up to n ends. -/
def tTo (p f l n : Int) : Int := n - (n - f) % p + l - 1
theorem tTo_bd {p f l n : Int} (h : TOk p f l) (h3 : -1000000000000000 ≤ n) (h4 : n ≤ 1000000000000000) : -1000000000100000 ≤ tTo p f l n ∧ tTo p f l n ≤ 1000000000100000 := by
  obtain ⟨a1, a2, a3, a4, a5, a6⟩ := h
  have e1 : 0 ≤ (n - f) % p := Int.emod_nonneg _ (by omega)
  have e2 : (n - f) % p < p := Int.emod_lt_of_pos _ (by omega)
  unfold tTo
  omega
theorem sTo_bd {lo hi n : Int} (h : SOk lo hi) : -1099511627776 ≤ sTo lo hi n ∧ sTo lo hi n ≤ 1048576 := by
  obtain ⟨a1, a2, a3⟩ := h
  unfold sTo
  split <;> omega

end Go.Proofs.YtcdodfehnkgjdaaGreatDoor

/- Contract of Last. -/
namespace Go.Proofs.YtcdodfehnkgjdaaGreatDoor
open Go.RowKit

/-- The numbers of which Last takes the least. -/
def lastNs (ts : List T3) (ss : List S2) (n : Int) : List Int := ts.map (fun t => -(mn (tTo t.1 t.2.1 t.2.2 n) n)) ++ ss.map (fun s => -(mn (sTo s.1 s.2 n) n))
def lastM (ts : List T3) (ss : List S2) (n : Int) : Int := (lastNs ts ss n).foldl mn 1099511627776
/-- What Last returns. -/
def LastIs (ts : List T3) (ss : List S2) (n d r c : Int) : Prop :=
  (d ≠ 0 ∧ r = 0 ∧ c = d) ∨ (d = 0 ∧ lastM ts ss n ≤ 0 ∧ r = -lastM ts ss n ∧ c = 0) ∨ (d = 0 ∧ 0 < lastM ts ss n ∧ r = 0 ∧ c = 5)
theorem foldl_mn_ge : ∀ (l : List Int) (a b : Int), b ≤ a → (∀ x ∈ l, b ≤ x) → b ≤ l.foldl mn a
  | [], _, _, h, _ => h
  | x :: l, a, b, h, hx => by
    refine foldl_mn_ge l (mn a x) b ?_ fun y hy => hx y (List.mem_cons_of_mem _ hy)
    have := hx x (List.mem_cons_self ..)
    unfold mn; split <;> omega
theorem lastM_bd {ts : List T3} {ss : List S2} {n : Int} (hn : MOk n) : -1048576 ≤ lastM ts ss n ∧ lastM ts ss n ≤ 1099511627776 := by
  refine ⟨foldl_mn_ge _ _ _ (by omega) fun x hx => ?_, (foldl_mn_le _ _).1⟩
  obtain ⟨n0, n1⟩ := hn
  have hm : ∀ a, mn a n ≤ n := fun a => by unfold mn; split <;> omega
  rcases List.mem_append.1 hx with hx | hx
  · obtain ⟨t, _, rfl⟩ := List.mem_map.1 hx; have := hm (tTo t.1 t.2.1 t.2.2 n); omega
  · obtain ⟨s, _, rfl⟩ := List.mem_map.1 hx; have := hm (sTo s.1 s.2 n); omega

end Go.Proofs.YtcdodfehnkgjdaaGreatDoor

/- Contracts of the specification's Check and asked. -/
namespace Go.Proofs.YtcdodfehnkgjdaaGreatDoor
open Go.RowKit

def sokB (lo hi : Int) : Bool := decide (0 ≤ lo ∧ lo ≤ hi ∧ hi ≤ 1048576)
theorem sokB_true {lo hi : Int} : sokB lo hi = true ↔ SOk lo hi := by simp [sokB, SOk]
set_option maxHeartbeats 2000000 in
theorem rspan_any (lo hi : Int) (w : World) : Calls Tryz.prog 70 #[sv2 lo hi] w fun e w' => e = .returned (.bool (sokB lo hi)) ∧ Below w.heap.size w w' := by
  by_cases c1 : 0 ≤ lo
  · by_cases c2 : lo ≤ hi
    · by_cases c3 : hi ≤ 1048576
      · rw [show sokB lo hi = true by unfold sokB; simp; omega]
        go_enter Tryz.func70, Tryz.ntmps70
        go_wp2_with fail
        go_ret
        exact ⟨rfl, (Below.refl _ _).alloc (Nat.le_refl _) _⟩
      · rw [show sokB lo hi = false by unfold sokB; simp; omega]
        go_enter Tryz.func70, Tryz.ntmps70
        go_wp2_with fail
        go_ret
        exact ⟨rfl, (Below.refl _ _).alloc (Nat.le_refl _) _⟩
    · rw [show sokB lo hi = false by unfold sokB; simp; omega]
      go_enter Tryz.func70, Tryz.ntmps70
      go_wp2_with fail
      go_ret
      exact ⟨rfl, (Below.refl _ _).alloc (Nat.le_refl _) _⟩
  · rw [show sokB lo hi = false by unfold sokB; simp; omega]
    go_enter Tryz.func70, Tryz.ntmps70
    go_wp2_with fail
    go_ret
    exact ⟨rfl, (Below.refl _ _).alloc (Nat.le_refl _) _⟩

set_option maxHeartbeats 2000000 in
set_option maxRecDepth 100000 in
theorem rcheck_any (vt vs : Value) (ts : List T3) (ss : List S2) (c : Int) (w : World) (ht : RT w.heap.size vt ts w) (hs : RS w.heap.size vs ss w) (hc : CheckIs ts ss c) :
    Calls Tryz.prog 32 #[.agg #[vt, vs]] w fun e w' => e = .returned (.int .i64 c) ∧ Below w.heap.size w w' := by
  obtain ⟨A, ca, rfl, n1, hx⟩ := ht
  obtain ⟨A', ca', rfl, n2, hy⟩ := hs
  have HX := Lib.hid hx
  have HX' := Lib.hid hy
  clear hx hy
  rcases checkIs_split hc with ⟨h, rfl⟩ | ⟨h1, h2, hy, hn⟩
  · clear hc
    by_cases k : 24 < ts.length
    · clear h
      have k' : (24 : Int) < (ts.length : Int) := by omega
      go_enter Tryz.func32, Tryz.ntmps32
      go_wp2_with fail
      go_ret
      exact ⟨rfl, (Below.refl _ _).alloc (Nat.le_refl _) _⟩
    · have k1 : 40 < ss.length := by omega
      have k' : (40 : Int) < (ss.length : Int) := by omega
      have k'' : (ts.length : Int) ≤ 24 := by omega
      clear h
      go_enter Tryz.func32, Tryz.ntmps32
      go_wp2_with fail
      go_ret
      exact ⟨rfl, (Below.refl _ _).alloc (Nat.le_refl _) _⟩
  · have k' : (ts.length : Int) ≤ 24 := by omega
    have k'' : (ss.length : Int) ≤ 40 := by omega
    have HY := Lib.hid hy
    have HN := Lib.hid hn
    have hd1 : decide ((24 : Int) < (ts.length : Int)) = false := by simp; omega
    have hd2 : decide ((40 : Int) < (ss.length : Int)) = false := by simp; omega
    clear hc hy hn
    go_enter Tryz.func32, Tryz.ntmps32
    go_wp2_with fail
    clear hd1 hd2
    go_loopw [3] (fun v wr => ∃ k : Nat, v = .int .i64 k ∧ k ≤ ts.length ∧ (∀ j t, j < k → ts[j]? = some t → TOk t.1 t.2.1 t.2.2) ∧ wr.cell? ⟨w.heap.size, 0, none⟩ = some (.slice A ts.length ca) ∧ wr.cell? ⟨w.heap.size, 1, none⟩ = some (.slice A' ss.length ca') ∧ w.heap.size < wr.heap.size ∧ Below w.heap.size w wr) (fun v _ => ts.length - (intOf v).toNat)
    case atStart => exact ⟨0, rfl, by omega, fun j t hj => by omega, by simp [go_sem], by simp [go_sem], by simp, (Below.refl _ _).alloc (Nat.le_refl _) _⟩
    case round =>
      obtain ⟨k, rfl, hk, hj, hcell0, hcell, hlt, hB⟩ := hrel
      have Hj := Lib.hid hj
      have HB := Lib.hid hB
      have hlt1 : ∀ W, Below wr.heap.size wr W → W.cell? ⟨w.heap.size, 0, none⟩ = some (.slice A ts.length ca) ∧ W.cell? ⟨w.heap.size, 1, none⟩ = some (.slice A' ss.length ca') := fun W hb => ⟨(hb.cell (p := ⟨w.heap.size, 0, none⟩) hlt).trans hcell0, (hb.cell (p := ⟨w.heap.size, 1, none⟩) hlt).trans hcell⟩
      have HL := Lib.hid hlt1
      clear hj hB hlt1
      by_cases hkl : k < ts.length
      · obtain ⟨b, o, eA, hbB, hcs⟩ := HX.out (by omega)
        subst eA
        have hk0 : (k : Int) < (ts.length : Int) := by omega
        obtain ⟨⟨p, f, l⟩, ht⟩ : ∃ t, ts[k]? = some t := ⟨_, List.getElem?_eq_getElem hkl⟩
        obtain ⟨c0, c1, c2'⟩ := hcs k p f l ht
        have d0 := (HB.out.cell (p := ⟨b, o + k * 3, none⟩) hbB).trans c0
        have d1 := (HB.out.cell (p := ⟨b, o + k * 3 + 1, none⟩) hbB).trans c1
        have d2 := (HB.out.cell (p := ⟨b, o + k * 3 + 2, none⟩) hbB).trans c2'
        have HT := Lib.hid ht
        clear c0 c1 c2' ht hcs
        by_cases hok : TOk p f l
        · have C := Lib.hid fun w => valid_ok p f l w hok
          have HO := Lib.hid hok
          clear hok
          go_wp2_with fail
          refine (C.out _).mono ?_
          rintro e w4 ⟨rfl, h4⟩
          have B4 := Lib.hid h4
          have z4 : wr.heap.size ≤ w4.heap.size := h4.size
          clear h4
          go_wp2_with fail
          go_roundw
          case rel =>
            refine ⟨k + 1, by go_num, by omega, ?_, (HL.out _ B4.out).1, (HL.out _ B4.out).2, by omega, HB.out.trans (B4.out.mono (by omega))⟩
            intro j t hj ht
            by_cases e : j = k
            · subst e
              rw [HT.out] at ht
              injection ht with ht
              subst ht
              exact HO.out
            · exact Hj.out j t (by omega) ht
          case measure => show ts.length - ((k : Int) + 1).toNat < ts.length - (k : Int).toNat; omega
        · have C := Lib.hid fun w => valid_bad p f l w hok
          have hc1 : c = 1 := HN.out (fun h => hok (h.1 _ (List.mem_of_getElem? HT.out)))
          subst hc1
          clear hok
          go_wp2_with fail
          refine (C.out _).mono ?_
          rintro e w4 ⟨rfl, h4⟩
          have B4 := Lib.hid h4
          clear h4
          go_wp2_with fail
          go_ret
          exact ⟨rfl, HB.out.trans (B4.out.mono (by omega))⟩
      · have hk0 : (ts.length : Int) ≤ (k : Int) := by omega
        have hz := HB.out.size
        have HA : Hid (∀ t ∈ ts, TOk t.1 t.2.1 t.2.2) := Lib.hid (by
          intro t ht
          obtain ⟨j, hj⟩ := List.mem_iff_getElem?.1 ht
          exact Hj.out j t (by have := (List.getElem?_eq_some_iff.1 hj).1; omega) hj)
        go_wp2_with fail
        go_loopw [5] (fun v wr => ∃ k : Nat, v = .int .i64 k ∧ k ≤ ss.length ∧ (∀ j t, j < k → ss[j]? = some t → SOk t.1 t.2) ∧ wr.cell? ⟨w.heap.size, 0, none⟩ = some (.slice A ts.length ca) ∧ wr.cell? ⟨w.heap.size, 1, none⟩ = some (.slice A' ss.length ca') ∧ w.heap.size < wr.heap.size ∧ Below w.heap.size w wr) (fun v _ => ss.length - (intOf v).toNat)
        case atStart => exact ⟨0, rfl, by omega, fun j t hj => by omega, hcell0, hcell, hlt, HB.out⟩
        case round =>
          obtain ⟨k2, rfl, hk2, hj2, hcellb, hcellc, hlt2, hB2⟩ := hrel
          have Hj2 := Lib.hid hj2
          have HB2 := Lib.hid hB2
          have hlt3 : ∀ W, Below wr.heap.size wr W → W.cell? ⟨w.heap.size, 0, none⟩ = some (.slice A ts.length ca) ∧ W.cell? ⟨w.heap.size, 1, none⟩ = some (.slice A' ss.length ca') := fun W hb => ⟨(hb.cell (p := ⟨w.heap.size, 0, none⟩) hlt2).trans hcellb, (hb.cell (p := ⟨w.heap.size, 1, none⟩) hlt2).trans hcellc⟩
          have HL2 := Lib.hid hlt3
          clear hj2 hB2 hlt3
          by_cases hkl2 : k2 < ss.length
          · obtain ⟨b2, o2, eA2, hbB2, hcs2⟩ := HX'.out (by omega)
            subst eA2
            have hk3 : (k2 : Int) < (ss.length : Int) := by omega
            obtain ⟨⟨lo, hi⟩, ht2⟩ : ∃ t, ss[k2]? = some t := ⟨_, List.getElem?_eq_getElem hkl2⟩
            obtain ⟨c0, c1⟩ := hcs2 k2 lo hi ht2
            have d0 := (HB2.out.cell (p := ⟨b2, o2 + k2 * 2, none⟩) hbB2).trans c0
            have d1 := (HB2.out.cell (p := ⟨b2, o2 + k2 * 2 + 1, none⟩) hbB2).trans c1
            have HT2 := Lib.hid ht2
            have hz2 := HB2.out.size
            have C := Lib.hid fun w => rspan_any lo hi w
            clear c0 c1 ht2 hcs2
            by_cases hok : SOk lo hi
            · rw [sokB_true.2 hok] at C
              have HO := Lib.hid hok
              clear hok
              go_wp2_with fail
              refine (C.out _).mono ?_
              rintro e w4 ⟨rfl, h4⟩
              have B4 := Lib.hid h4
              have z4 := h4.size
              clear h4
              go_wp2_with fail
              go_roundw
              case rel =>
                refine ⟨k2 + 1, by go_num, by omega, ?_, (HL2.out _ B4.out).1, (HL2.out _ B4.out).2, by omega, HB2.out.trans (B4.out.mono (by omega))⟩
                intro j t hj ht
                by_cases e : j = k2
                · subst e
                  rw [HT2.out] at ht
                  injection ht with ht
                  subst ht
                  exact HO.out
                · exact Hj2.out j t (by omega) ht
              case measure => show ss.length - ((k2 : Int) + 1).toNat < ss.length - (k2 : Int).toNat; omega
            · rw [show sokB lo hi = false by rw [← Bool.not_eq_true, sokB_true]; exact hok] at C
              have hc1 : c = 1 := HN.out (fun h => hok (h.2 _ (List.mem_of_getElem? HT2.out)))
              subst hc1
              clear hok
              go_wp2_with fail
              refine (C.out _).mono ?_
              rintro e w4 ⟨rfl, h4⟩
              have B4 := Lib.hid h4
              clear h4
              go_wp2_with fail
              go_ret
              exact ⟨rfl, HB2.out.trans (B4.out.mono (by omega))⟩
          · have hk3 : (ss.length : Int) ≤ (k2 : Int) := by omega
            have hc0 : c = 0 := HY.out ⟨HA.out, by
              intro t ht
              obtain ⟨j, hj⟩ := List.mem_iff_getElem?.1 ht
              exact Hj2.out j t (by have := (List.getElem?_eq_some_iff.1 hj).1; omega) hj⟩
            subst hc0
            go_wp2_with fail
            go_ret
            exact ⟨rfl, HB2.out⟩
end Go.Proofs.YtcdodfehnkgjdaaGreatDoor

/- Contract of the specification's Has. -/
namespace Go.Proofs.YtcdodfehnkgjdaaGreatDoor
open Go.RowKit

theorem setB_append (a b : List Lot) (n : Int) : setB (a ++ b) n = (setB a n || setB b n) := by simp [setB, List.any_append]
theorem setB_takeT {ts : List T3} {k : Nat} {p f l : Int} (h : ts[k]? = some (p, f, l)) (n : Int) : setB ((ts.take (k + 1)).map lotOfT) n = (setB ((ts.take k).map lotOfT) n || decide ((n - f) % p < l)) := by
  obtain ⟨h1, h2⟩ := List.getElem?_eq_some_iff.1 h
  rw [List.take_succ_eq_append_getElem h1, List.map_append, setB_append, h2]
  simp [setB, Lot.hasB, lotOfT]
theorem setB_takeS {ss : List S2} {k : Nat} {a b : Int} (h : ss[k]? = some (a, b)) (n : Int) : setB ((ss.take (k + 1)).map lotOfS) n = (setB ((ss.take k).map lotOfS) n || decide (a ≤ n ∧ n ≤ b)) := by
  obtain ⟨h1, h2⟩ := List.getElem?_eq_some_iff.1 h
  rw [List.take_succ_eq_append_getElem h1, List.map_append, setB_append, h2]
  simp [setB, Lot.hasB, lotOfS]
theorem setB_mono {a b : List Lot} (h : ∀ x ∈ a, x ∈ b) {n : Int} (ha : setB a n = true) : setB b n = true := by
  obtain ⟨x, h1, h2⟩ := (setB_iff a n).1 ha
  exact (setB_iff b n).2 ⟨x, h x h1, h2⟩

end Go.Proofs.YtcdodfehnkgjdaaGreatDoor

/- Contracts of the specification's asked, Holds, before. -/
namespace Go.Proofs.YtcdodfehnkgjdaaGreatDoor
open Go.RowKit

def mokB (n : Int) : Bool := decide (0 ≤ n ∧ n ≤ 1048576)
theorem atIs_ok {ts : List T3} {ss : List S2} {c n : Int} (hc : CheckIs ts ss c) (hd : AtIs c n 0) : ts.length ≤ 24 ∧ ss.length ≤ 40 ∧ AllOk ts ss ∧ MOk n := by
  rcases hd with ⟨a, b⟩ | ⟨a, b, _⟩ | ⟨a, b, e⟩
  · omega
  · rcases hc with ⟨_, e⟩ | ⟨e1, e2, e3, _⟩ | ⟨_, _, _, e⟩
    · omega
    · exact ⟨e1, e2, e3, b⟩
    · omega
  · omega

def beforeF (p f l n : Int) : Int := if (n - f) % p < l then n else n - ((n - f) % p - l + 1)
end Go.Proofs.YtcdodfehnkgjdaaGreatDoor

/- Contract of the specification's Next. -/
namespace Go.Proofs.YtcdodfehnkgjdaaGreatDoor
open Go.RowKit

theorem after_mx (p f l n : Int) (h : TOk p f l) : afterF p f l n = mx (fromLo p f l n) n := by
  obtain ⟨a1, a2, a3, a4, a5, a6⟩ := h
  have e1 : 0 ≤ (n - f) % p := Int.emod_nonneg _ (by omega)
  have e2 : (n - f) % p < p := Int.emod_lt_of_pos _ (by omega)
  unfold afterF fromLo mx
  generalize (n - f) % p = r at *
  by_cases c : r < l
  · rw [if_pos c, if_neg (show ¬ l ≤ r by omega)]; split <;> omega
  · rw [if_neg c, if_pos (show l ≤ r by omega)]; split <;> omega

theorem foldl_snoc_take {α : Type} (g : α → Int) (l : List α) (k : Nat) (x : α) (h : l[k]? = some x) (a : Int) : ((l.take (k + 1)).map g).foldl mn a = mn (((l.take k).map g).foldl mn a) (g x) := by
  obtain ⟨h1, rfl⟩ := List.getElem?_eq_some_iff.1 h
  rw [List.take_succ_eq_append_getElem h1, List.map_append, List.foldl_append]; rfl
def gT (n : Int) (t : T3) : Int := mx (fromLo t.1 t.2.1 t.2.2 n) n
def gS (n : Int) (s : S2) : Int := mx (sFrom s.1 s.2 n) n
theorem nextNs_def (ts : List T3) (ss : List S2) (n : Int) : nextNs ts ss n = ts.map (gT n) ++ ss.map (gS n) := rfl
theorem foldl_mn_start (l : List Int) (a : Int) : l.foldl mn a ≤ a := (foldl_mn_le l a).1

end Go.Proofs.YtcdodfehnkgjdaaGreatDoor

/- Contract of the specification's Last. -/
namespace Go.Proofs.YtcdodfehnkgjdaaGreatDoor
open Go.RowKit

theorem before_mn (p f l n : Int) (h : TOk p f l) : beforeF p f l n = mn (tTo p f l n) n := by
  obtain ⟨a1, a2, a3, a4, a5, a6⟩ := h
  have e1 : 0 ≤ (n - f) % p := Int.emod_nonneg _ (by omega)
  have e2 : (n - f) % p < p := Int.emod_lt_of_pos _ (by omega)
  unfold beforeF tTo mn
  generalize (n - f) % p = r at *
  by_cases c : r < l
  · rw [if_pos c]; split <;> omega
  · rw [if_neg c]; split <;> omega
def hT (n : Int) (t : T3) : Int := -(mn (tTo t.1 t.2.1 t.2.2 n) n)
def hS (n : Int) (s : S2) : Int := -(mn (sTo s.1 s.2 n) n)
theorem lastNs_def (ts : List T3) (ss : List S2) (n : Int) : lastNs ts ss n = ts.map (hT n) ++ ss.map (hS n) := rfl
theorem neg_mn (a x : Int) : -(mn (-a) (-x)) = if a < x then x else a := by unfold mn; split <;> split <;> omega

end Go.Proofs.YtcdodfehnkgjdaaGreatDoor

/- Contracts of the specification's Next and Last, in the terms of the layer's. -/
namespace Go.Proofs.YtcdodfehnkgjdaaGreatDoor
open Go.RowKit

theorem foldl_mn_two (l : List Int) {a b : Int} (h : a ≤ b) : l.foldl mn a = mn (l.foldl mn b) a := by
  obtain ⟨x1, x2, x3⟩ := foldl_mn_le l a
  obtain ⟨y1, y2, y3⟩ := foldl_mn_le l b
  unfold mn at *
  rcases x3 with x3 | x3
  · have : l.foldl mn a ≤ l.foldl mn b := by
      rcases y3 with y3 | y3
      · unfold mn; omega
      · exact x2 _ y3
    unfold mn at this
    split <;> omega
  · have h1 := y2 _ x3
    have : l.foldl mn a ≤ l.foldl mn b := by
      rcases y3 with y3 | y3
      · unfold mn; omega
      · exact x2 _ y3
    unfold mn at this
    split <;> omega

theorem AtIs.exists_ (c n : Int) : ∃ d, AtIs c n d := by
  by_cases h : c = 0
  · by_cases h2 : MOk n
    · exact ⟨0, .inr (.inl ⟨h, h2, rfl⟩)⟩
    · exact ⟨1, .inr (.inr ⟨h, h2, rfl⟩)⟩
  · exact ⟨c, .inl ⟨h, rfl⟩⟩
theorem CheckIs.exists_ (ts : List T3) (ss : List S2) : ∃ c, CheckIs ts ss c := by
  by_cases h : 24 < ts.length ∨ 40 < ss.length
  · exact ⟨2, .inl ⟨h, rfl⟩⟩
  · by_cases h2 : AllOk ts ss
    · exact ⟨0, .inr (.inl ⟨by omega, by omega, h2, rfl⟩)⟩
    · exact ⟨1, .inr (.inr ⟨by omega, by omega, h2, rfl⟩)⟩
theorem NextIs.exists_ (ts : List T3) (ss : List S2) (n d : Int) : ∃ r q, NextIs ts ss n d r q := by
  by_cases h : d = 0
  · by_cases h2 : nextM ts ss n ≤ 1048576
    · exact ⟨_, _, .inr (.inl ⟨h, h2, rfl, rfl⟩)⟩
    · exact ⟨_, _, .inr (.inr ⟨h, by omega, rfl, rfl⟩)⟩
  · exact ⟨_, _, .inl ⟨h, rfl, rfl⟩⟩
theorem LastIs.exists_ (ts : List T3) (ss : List S2) (n d : Int) : ∃ r q, LastIs ts ss n d r q := by
  by_cases h : d = 0
  · by_cases h2 : lastM ts ss n ≤ 0
    · exact ⟨_, _, .inr (.inl ⟨h, h2, rfl, rfl⟩)⟩
    · exact ⟨_, _, .inr (.inr ⟨h, by omega, rfl, rfl⟩)⟩
  · exact ⟨_, _, .inl ⟨h, rfl, rfl⟩⟩
end Go.Proofs.YtcdodfehnkgjdaaGreatDoor
