/- Contracts of the methods of turns and spans through the interface, of the closure of Next, and of least over lots. -/
import Derived.Test.YtcdodfehnkgjdaaGreatDoorC2
namespace Go.Proofs.YtcdodfehnkgjdaaGreatDoor
open Go.RowKit

set_option maxHeartbeats 1000000 in
theorem sfrom_any (lo hi n : Int) (w : World) :
    Calls Tryz.prog 138 #[sv2 lo hi, .int .i64 n] w fun e w' => e = .returned (sv2 (sFrom lo hi n) (sFromHi hi n)) ∧ Below w.heap.size w w' := by
  have H1 : Hid (sFrom lo hi n = if hi < n then 1099511627776 else lo) := Lib.hid rfl
  have H2 : Hid (sFromHi hi n = if hi < n then 1099511627776 else hi) := Lib.hid rfl
  by_cases c : hi < n
  · go_enter Tryz.func138, Tryz.ntmps138
    go_wp2_with fail
    refine bodyPost_ret (v := sv2 1099511627776 1099511627776) (by simp [results, Tryz.results138, go_sem]) rfl ⟨?_, ?_⟩
    · rw [H1.out, H2.out, if_pos c, if_pos c]
    · exact ((Below.refl _ _).alloc (Nat.le_refl _) _).alloc (by simp) _
  · go_enter Tryz.func138, Tryz.ntmps138
    go_wp2_with fail
    refine bodyPost_ret (v := sv2 lo hi) (by simp [results, Tryz.results138, go_sem]) rfl ⟨?_, ?_⟩
    · rw [H1.out, H2.out, if_neg (by omega), if_neg (by omega)]
    · exact ((Below.refl _ _).alloc (Nat.le_refl _) _).alloc (by simp) _

def mx (a b : Int) : Int := if a < b then b else a
def mn (a b : Int) : Int := if b < a then b else a

-- 292: the fuel as the walk shows it (it hangs on the dump's number of types)
theorem fld0 (x y : Int) (w : World) : (Instr.field 45 (.agg #[.int .i64 x, .int .i64 y]) 0).run Tryz.prog w = .ok (.int .i64 x) w := by kernel_rfl
theorem fld1 (x y : Int) (w : World) : (Instr.field 45 (.agg #[.int .i64 x, .int .i64 y]) 1).run Tryz.prog w = .ok (.int .i64 y) w := by kernel_rfl
theorem m_from_T (p f l : Int) (w : World) : (method 288 85 (.agg #[.int .i64 p, .int .i64 f, .int .i64 l]) "drowner/turn.from").run Tryz.prog w = .ok (49, .agg #[.int .i64 p, .int .i64 f, .int .i64 l]) w := by kernel_rfl
theorem m_from_S (lo hi : Int) (w : World) : (method 288 121 (.agg #[.int .i64 lo, .int .i64 hi]) "drowner/turn.from").run Tryz.prog w = .ok (138, .agg #[.int .i64 lo, .int .i64 hi]) w := by kernel_rfl

set_option maxHeartbeats 1000000 in
set_option maxRecDepth 100000 in
theorem next1_T (p f l n : Int) (b : Nat) (w : World) (h : TOk p f l) (h3 : -1000000000000000 ≤ n) (h4 : n ≤ 1000000000000000) (hc : w.cell? ⟨b, 0, none⟩ = some (.int .i64 n)) (hb : b < w.heap.size) :
    Calls Tryz.prog 45 #[.iface 85 (tv p f l), .pointer (some ⟨b, 0, none⟩)] w fun e w' => e = .returned (.int .i64 (mx (fromLo p f l n) n)) ∧ Below w.heap.size w w' := by
  have C : Hid (∀ w, Calls Tryz.prog 49 #[.agg #[.int .i64 p, .int .i64 f, .int .i64 l], .int .i64 n] w fun e w' => e = .returned (.agg #[.int .i64 (fromLo p f l n), .int .i64 (fromLo p f l n + l - 1)]) ∧ Below w.heap.size w w') := Lib.hid fun w => from_any p f l n w h h3 h4
  have HM : Hid (mx (fromLo p f l n) n = if fromLo p f l n < n then n else fromLo p f l n) := Lib.hid rfl
  generalize fromLo p f l n = z at *
  have hm := m_from_T p f l
  have hf0 := fld0
  by_cases c : z < n
  all_goals
    go_enter Tryz.func45, Tryz.ntmps45
    go_wp2_with fail
    go_region_held3 (fun W => W.cell? ⟨b, 0, none⟩ = some (.int .i64 n)) ((first | exact hc | exact hc4)) (first | (go_at_call 49; refine (C.out _).mono ?_; rintro e w4 ⟨rfl, h4⟩; have hc4 := (h4.cell (p := ⟨b, 0, none⟩) hb).trans hc; have B4 : Below w.heap.size w w4 := (Below.refl _ _).drew.trans h4))
    go_wp2_with fail
    go_ret
  · exact ⟨ret_int (by rw [HM.out, if_pos c]), B4⟩
  · exact ⟨ret_int (by rw [HM.out, if_neg (by omega)]), B4⟩

set_option maxHeartbeats 1000000 in
set_option maxRecDepth 100000 in
theorem next1_S (lo hi n : Int) (b : Nat) (w : World) (hc : w.cell? ⟨b, 0, none⟩ = some (.int .i64 n)) (hb : b < w.heap.size) :
    Calls Tryz.prog 45 #[.iface 121 (sv2 lo hi), .pointer (some ⟨b, 0, none⟩)] w fun e w' => e = .returned (.int .i64 (mx (sFrom lo hi n) n)) ∧ Below w.heap.size w w' := by
  have C : Hid (∀ w, Calls Tryz.prog 138 #[.agg #[.int .i64 lo, .int .i64 hi], .int .i64 n] w fun e w' => e = .returned (.agg #[.int .i64 (sFrom lo hi n), .int .i64 (sFromHi hi n)]) ∧ Below w.heap.size w w') := Lib.hid fun w => sfrom_any lo hi n w
  have HM : Hid (mx (sFrom lo hi n) n = if sFrom lo hi n < n then n else sFrom lo hi n) := Lib.hid rfl
  generalize sFrom lo hi n = z at *
  have hm := m_from_S lo hi
  have hf0 := fld0
  by_cases c : z < n
  all_goals
    go_enter Tryz.func45, Tryz.ntmps45
    go_wp2_with fail
    go_region_held3 (fun W => W.cell? ⟨b, 0, none⟩ = some (.int .i64 n)) ((first | exact hc | exact hc4)) (first | (go_at_call 138; refine (C.out _).mono ?_; rintro e w4 ⟨rfl, h4⟩; have hc4 := (h4.cell (p := ⟨b, 0, none⟩) hb).trans hc; have B4 : Below w.heap.size w w4 := (Below.refl _ _).drew.trans h4))
    go_wp2_with fail
    go_ret
  · exact ⟨ret_int (by rw [HM.out, if_pos c]), B4⟩
  · exact ⟨ret_int (by rw [HM.out, if_neg (by omega)]), B4⟩

set_option maxHeartbeats 2000000 in
set_option maxRecDepth 100000 in
theorem leastNext_any (cap v : Value) (base n : Nat) (xs : List Value) (ns : List Int) (w : World) (hn : ns.length = n) (hx : xs.length = n) (hrow : w.ownsRow base 78 1 v n xs) (hmax : n ≤ 100)
    (hF : ∀ (k : Nat) (x : Value) (m : Int) (W : World), xs[k]? = some x → ns[k]? = some m → Below w.heap.size w W → Calls Tryz.prog 45 #[x, cap] W fun e w' => e = .returned (.int .i64 m) ∧ Below W.heap.size W w') :
    Calls Tryz.prog 43 #[v, .func (.func 45) #[] #[cap]] w fun e w' => e = .returned (.int .i64 (ns.foldl mn 1099511627776)) ∧ Below w.heap.size w w' := by
  have HF := Lib.hid hF
  have HR := Lib.hid hrow
  clear hF
  rcases hrow.2 with ⟨rfl, h0⟩ | ⟨g, c, cur, rfl, hg, hblk, hnc, hcm, hcs, htk⟩
  · subst h0
    clear hrow
    obtain rfl : ns = [] := List.length_eq_zero_iff.1 hn
    go_enter Tryz.func43, Tryz.ntmps43
    go_wp2_with fail
    refine wp_loop_rounds 1 ?_
    rw [rounds_succ]
    go_wp2_with fail
    go_ret
    exact ⟨rfl, Below.refl _ _⟩
  · have hlt : g < w.heap.size := by
      rcases Nat.lt_or_ge g w.heap.size with h | h
      · exact h
      · rw [Array.getElem?_eq_none h] at hblk; cases hblk
    have HC := Lib.hid fun j hj => World.ownsRow.cellAt HR.out j hj
    clear hrow hblk hcs htk
    go_enter Tryz.func43, Tryz.ntmps43
    go_wp2_with fail
    go_loopw [5, 10] (fun u v wr => ∃ k : Nat, v = .int .i64 k ∧ k ≤ n ∧ u = .int .i64 ((ns.take k).foldl mn 1099511627776) ∧ Below w.heap.size w wr) (fun _ v _ => n - (intOf v).toNat)
    case atStart => exact ⟨0, rfl, by omega, rfl, Below.refl _ _⟩
    case round =>
      obtain ⟨k, rfl, hk, rfl, hB⟩ := hrel
      have HB := Lib.hid hB
      clear hB
      by_cases hkn : k < n
      · obtain ⟨x, hxk⟩ : ∃ x, xs[k]? = some x := ⟨_, List.getElem?_eq_getElem (by omega)⟩
        obtain ⟨m, hmk⟩ : ∃ m, ns[k]? = some m := ⟨_, List.getElem?_eq_getElem (by omega)⟩
        have hk0 : (k : Int) < (n : Int) := by omega
        have hcell : wr.cell? ⟨g, k, none⟩ = some x := (HB.out.cell (p := ⟨g, k, none⟩) hlt).trans ((HC.out k (by omega)).trans hxk)
        have C := Lib.hid fun W h => HF.out k x m W hxk hmk h
        have HT : Hid ((ns.take (k + 1)).foldl mn 1099511627776 = mn ((ns.take k).foldl mn 1099511627776) m) := Lib.hid (by
          obtain ⟨h1, rfl⟩ := List.getElem?_eq_some_iff.1 hmk
          rw [List.take_succ_eq_append_getElem h1, List.foldl_append]; rfl)
        generalize (ns.take k).foldl mn 1099511627776 = acc at *
        clear hxk hmk
        go_wp2_with fail
        refine (C.out _ HB.out).mono ?_
        rintro e w4 ⟨rfl, h4⟩
        have B4 := Lib.hid (HB.out.trans (h4.mono (by have := HB.out.size; omega)))
        clear h4
        by_cases c' : m < acc
        all_goals
          go_wp2_with fail
          go_roundw
        · exact ⟨k + 1, by go_num, by omega, by rw [HT.out, mn, if_pos c'], B4.out⟩
        · show n - ((k : Int) + 1).toNat < n - (k : Int).toNat; omega
        · exact ⟨k + 1, by go_num, by omega, by rw [HT.out, mn, if_neg (by omega)], B4.out⟩
        · show n - ((k : Int) + 1).toNat < n - (k : Int).toNat; omega
      · have hk0 : (n : Int) ≤ (k : Int) := by omega
        have HE : Hid ((ns.take k).foldl mn 1099511627776 = ns.foldl mn 1099511627776) := Lib.hid (by rw [List.take_of_length_le (by omega)])
        generalize (ns.take k).foldl mn 1099511627776 = acc at *
        go_wp2_with fail
        go_ret
        exact ⟨ret_int HE.out, HB.out⟩
end Go.Proofs.YtcdodfehnkgjdaaGreatDoor
