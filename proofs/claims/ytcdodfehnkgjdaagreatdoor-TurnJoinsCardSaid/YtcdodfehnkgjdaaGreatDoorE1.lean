/- Contract of the closure of sweep.within: the runs of a set within a span, one by one. -/
import Derived.Test.YtcdodfehnkgjdaaGreatDoorD6
import Derived.Test.YtcdodfehnkgjdaaGreatDoorMM
import Derived.Test.YtcdodfehnkgjdaaGreatDoorR1
import Derived.Shelf.Abstract
import Derived.Shelf.RegionOpen
import Derived.WalkKit
import Derived.OwnWalkIn
import Derived.TacticsInMore
import Derived.LoopNIn
import Derived.LoopIn
import Derived.RangeFuncBound
namespace Go.Proofs.YtcdodfehnkgjdaaGreatDoor
open Go.RowKit
attribute [local go_sem] Oper.semAt_some

theorem Lanes.keeps {bs O : List Nat} {xs : List Lot} {n : Int} {w w' : World} (h : Lanes bs xs n w) (hk : Keeps O w w') (hb : ∀ b ∈ bs, b ∈ O) : Lanes bs xs n w' :=
  ⟨h.1, h.2.1, fun k b x h1 h2 => by
    obtain ⟨lo, hi, l1, l2⟩ := h.2.2 k b x h1 h2
    exact ⟨lo, hi, l1.same (hk.same b (hb b (List.mem_of_getElem? h1)) l1.lt), l2⟩⟩
theorem Ptrs.keeps {bs O : List Nat} {A : Option Addr} {w w' : World} (h : Ptrs bs A w) (hk : Keeps O w w') (hA : ∀ g, A = some ⟨g, 0, none⟩ → g ∈ O) : Ptrs bs A w' := fun hp => by
  obtain ⟨g, e, hn, hc⟩ := h hp
  exact ⟨g, e, hn, fun k b hb => hk.cell (hc k b hb) (hA g e)⟩

def WithinPost (bs : List Nat) (xs : List Lot) (lo hi : Int) (O0 : List Nat) (J Jx : List Nat → List S2 → World → Prop) (e : Ending) (W' : World) : Prop :=
  (∃ v, e = .returned v) ∧ ((∃ O q, (∀ o ∈ O0, o ∈ O) ∧ J O (spn (setB xs) lo (hi + 1 - lo).toNat) W' ∧ Lanes bs xs q W' ∧ q ≤ hi + 1) ∨ (∃ O, ∃ k : Nat, lo + k ≤ hi + 1 ∧ Jx O (spn (setB xs) lo k) W'))

/-- What the loop over a span's runs owes at each round. -/
def RoundsOf (l : Nat) (xs : List Lot) (lo hi : Int) (J Jx : List Nat → List S2 → World → Prop) : Prop :=
  ∀ (O : List Nat) (k k' : Nat) (a b : Int) (W1 : World), lo ≤ a → a ≤ b → b ≤ hi → lo + k' ≤ hi + 1 → spn (setB xs) lo k' = spn (setB xs) lo k ++ [(a, b)] → J O (spn (setB xs) lo k) W1 →
      YieldAt Fence.wide 2 Tryz.prog l #[sv2 a b] W1 fun e W' => (e = .returned (.bool true) ∧ J O (spn (setB xs) lo k') W' ∧ Keeps O W1 W') ∨ (e = .returned (.bool false) ∧ Jx O (spn (setB xs) lo k') W')

set_option maxHeartbeats 4000000 in
set_option maxRecDepth 1000000 in
theorem within1_any (l : Nat) (bs : List Nat) (xs : List Lot) (A : Option Addr) (c gx gw : Nat) (P lo hi : Int) (O0 : List Nat) (J Jx : List Nat → List S2 → World → Prop) (w : World)
    (hok : ∀ x ∈ xs, x.ok) (hbs : ∀ b ∈ bs, b ∈ O0) (hgx : gx ∈ O0) (hgw : gw ∈ O0) (hgxn : gx ∉ bs) (hgwn : gw ∉ bs) (hA : ∀ g, A = some ⟨g, 0, none⟩ → g ∈ O0)
    (hJ : ∀ O O' s W1 W2, J O s W1 → GrownL O W1 W2 → Claims O O' W1 W2 → J O' s W2)
    (hY : RoundsOf l xs lo hi J Jx)
    (h : Lanes bs xs P w) (hp : Ptrs bs A w) (h1 : P ≤ lo) (h2 : 0 ≤ lo) (h3 : lo ≤ hi + 1) (h4 : hi ≤ 1048576) (hlen : bs.length ≤ 100)
    (hcx0 : w.cell? ⟨gx, 0, none⟩ = some (.int .i64 lo)) (hcx1 : w.cell? ⟨gx, 1, none⟩ = some (.int .i64 hi)) (hcw : w.cell? ⟨gw, 0, none⟩ = some (.slice A bs.length c)) (h0 : J O0 [] w) :
    Calls Tryz.prog 84 #[.func (.yield l) #[] #[], .pointer (some ⟨gx, 0, none⟩), .pointer (some ⟨gw, 0, none⟩)] w (WithinPost bs xs lo hi O0 J Jx) := by
  have HOK := Lib.hid hok
  have HBS := Lib.hid hbs
  have HA := Lib.hid hA
  have HJ := Lib.hid hJ
  have HY := Lib.hid hY
  have HL := Lib.hid h
  have HP := Lib.hid hp
  have HX0 := Lib.hid hcx0
  have HX1 := Lib.hid hcx1
  have HW := Lib.hid hcw
  have H0 := Lib.hid h0
  have HGX := Lib.hid (And.intro hgx hgxn)
  have HGW := Lib.hid (And.intro hgw hgwn)
  clear hok hbs hA hJ hY h hp hcx1 hcw h0 hgx hgxn hgw hgwn
  refine (callsIn_wide (n := 3)).1 ?_
  refine callsIn_of_wp Tryz.func84 rfl trivial ?_ rfl
  simp only [Tryz.ntmps84, List.size_toArray, List.length_cons, List.length_nil, Nat.reduceAdd, Nat.reduceSub, Array.replicate_succ, Array.replicate_zero, List.push_toArray, List.append_toArray, List.nil_append, List.cons_append]
  gi_wp2
  clear hcx0
  gi_loopw [4] (fun u wr => ∃ (O : List Nat) (k : Nat) (q : Int), u = .int .i64 (lo + k) ∧ lo + k ≤ hi + 1 ∧ Stands (setB xs) lo hi k ∧ (∀ o ∈ O0, o ∈ O) ∧ J O (spn (setB xs) lo k) wr ∧ Lanes bs xs q wr ∧ q ≤ lo + k ∧ Ptrs bs A wr ∧
      wr.cell? ⟨gx, 0, none⟩ = some (.int .i64 lo) ∧ wr.cell? ⟨gx, 1, none⟩ = some (.int .i64 hi) ∧ wr.cell? ⟨gw, 0, none⟩ = some (.slice A bs.length c)) (fun u _ => (hi + 1 - intOf u).toNat)
  case atStart => exact ⟨O0, 0, P, by simp, by omega, .inl rfl, fun _ h => h, H0.out, HL.out, by omega, HP.out, HX0.out, HX1.out, HW.out⟩
  case round =>
    obtain ⟨O, k, q, rfl, hk, hst, hoo, hj, hla, hq, hpt, hx0, hx1, hw0⟩ := hrel
    have HOO := Lib.hid hoo
    have HST := Lib.hid hst
    have HJJ := Lib.hid hj
    have HLA := Lib.hid hla
    have HPT := Lib.hid hpt
    have HX0' := Lib.hid hx0
    have HX1' := Lib.hid hx1
    have HW0' := Lib.hid hw0
    clear hst hj hla hpt hoo
    by_cases hlt : lo + k ≤ hi
    · have C := Lib.hid (sweepNext_any bs xs A c q (lo + k) hi wr HOK.out HLA.out HPT.out hq (by omega) (by omega) h4 hlen)
      gi_wp2_with fail
      refine ⟨trivial, (callsIn_wide.2 C.out).mono ?_⟩
      rintro e W1 ⟨a, b, q', hrun, g1, g2, g3, rfl, hla1, hgr1⟩
      clear hx0 hx1 hw0
      have hx0 := hgr1.cell HX0'.out HGX.out.2
      have hx1 := hgr1.cell HX1'.out HGX.out.2
      have hw0 := hgr1.cell HW0'.out HGW.out.2
      have HX0 := Lib.hid hx0
      have HX1 := Lib.hid hx1
      have HW0 := Lib.hid hw0
      have HJ1 := Lib.hid (HJ.out O O _ _ _ HJJ.out (hgr1.mono fun o ho => HOO.out o (HBS.out o ho)) (Claims.refl _ _ _))
      have HP1 := Lib.hid (HPT.out.grown hgr1)
      have HL1 := Lib.hid hla1
      have HR := Lib.hid hrun
      clear hrun hla1 hgr1
      by_cases hah : a ≤ hi
      · obtain ⟨r1, r2, r3, r4, r5⟩ := stands_run (fun m => setB_iff xs m) hlt HST.out HR.out hah (by omega)
        have HS5 := Lib.hid r5
        have HS4 := Lib.hid r4
        clear r4 r5
        have hlx : gx < W1.heap.size := World.block_lt_of_cell? _ _ hx1
        have hy1 : (W1.alloc (.cells #[.int .i64 a, .int .i64 b] 45)).cell? ⟨gx, 1, none⟩ = some (.int .i64 hi) := (World.cell?_alloc_lt _ _ _ hlx).trans hx1
        have hgA : GrownL O W1 (W1.alloc (.cells #[.int .i64 a, .int .i64 b] 45)) := GrownL.of_below ((Below.refl _ _).alloc (Nat.le_refl _) _)
        have HJ2 := HJ.out O (W1.heap.size :: O) _ _ _ HJ1.out hgA (Claims.one (Nat.le_refl _) (by simp))
        obtain ⟨fn, tmps, assign, body, hy, hR⟩ := HY.out _ k ((b + 1 - lo).toNat) a b _ (by omega) r2 r3 (by omega) HS4.out HJ2
        have HGA := Lib.hid hgA
        have hd : decide (hi < a) = false := by simp; omega
        have HX1a := Lib.hid hx1
        have HX0a := Lib.hid hx0
        have HW0a := Lib.hid hw0
        clear HJ2 hgA hx1 hx0 hw0
        gi_wp2_with fail
        refine hR.mono ?_
        rintro e W3 (⟨rfl, hJ3, hk3⟩ | ⟨rfl, hJx3⟩)
        · have hb3 : W3.cell? ⟨W1.heap.size, 1, none⟩ = some (.int .i64 b) := hk3.cell (p := ⟨W1.heap.size, 1, none⟩) (by simp [go_sem]) (by simp)
          have hgx3 : ∀ (i : Nat) v, W1.cell? ⟨gx, i, none⟩ = some v → W3.cell? ⟨gx, i, none⟩ = some v := fun i v h => hk3.cell (p := ⟨gx, i, none⟩) ((World.cell?_alloc_lt _ _ _ hlx).trans h) (by simp [HOO.out gx HGX.out.1])
          have hgw3 : W3.cell? ⟨gw, 0, none⟩ = some (.slice A bs.length c) := hk3.cell (p := ⟨gw, 0, none⟩) ((World.cell?_alloc_lt _ _ _ (World.block_lt_of_cell? _ _ HW0a.out)).trans HW0a.out) (by simp [HOO.out gw HGW.out.1])
          have F3 := Lib.hid (And.intro (hgx3 0 _ HX0a.out) (And.intro (hgx3 1 _ HX1a.out) hgw3))
          have HJ3 := Lib.hid hJ3
          have HL3 := Lib.hid ((HL1.out.grown ((Below.refl W1.heap.size W1).alloc (Nat.le_refl _) (.cells #[.int .i64 a, .int .i64 b] 45))).keeps hk3 (fun o ho => List.mem_cons_of_mem _ (HOO.out o (HBS.out o ho))))
          have HP3 := Lib.hid ((HP1.out.grown (GrownL.of_below (bs := bs) ((Below.refl W1.heap.size W1).alloc (Nat.le_refl _) (.cells #[.int .i64 a, .int .i64 b] 45)))).keeps hk3 (fun g e => List.mem_cons_of_mem _ (HOO.out g (HA.out g e))))
          clear hgx3 hgw3 hJ3 hk3 hR hy1
          gi_wp2_with fail
          go_roundw
          case rel => exact ⟨W1.heap.size :: O, (b + 1 - lo).toNat, q', by congr 1; omega, by omega, HS5.out, fun o ho => List.mem_cons_of_mem _ (HOO.out o ho), HJ3.out, HL3.out, by omega, HP3.out, F3.out.1, F3.out.2.1, F3.out.2.2⟩
          case measure => show (hi + 1 - (b + 1)).toNat < (hi + 1 - (lo + k)).toNat; omega
        · have HJ3 := Lib.hid hJx3
          clear hJx3 hR hy1
          gi_wp2_with fail
          refine bodyPost_ret (results_none rfl _ _ _) rfl ?_
          exact ⟨⟨_, rfl⟩, .inr ⟨_, (b + 1 - lo).toNat, by omega, HJ3.out⟩⟩
      · have hlx : gx < W1.heap.size := World.block_lt_of_cell? _ _ hx1
        have hy1 : (W1.alloc (.cells #[.int .i64 a, .int .i64 b] 45)).cell? ⟨gx, 1, none⟩ = some (.int .i64 hi) := (World.cell?_alloc_lt _ _ _ hlx).trans hx1
        have hd : decide (hi < a) = true := by simp; omega
        have hN := stands_none (fun m => setB_iff xs m) (by omega) HR.out (by omega)
        have HN := Lib.hid hN
        have hgA : GrownL O W1 (W1.alloc (.cells #[.int .i64 a, .int .i64 b] 45)) := GrownL.of_below ((Below.refl _ _).alloc (Nat.le_refl _) _)
        have HJ2 := Lib.hid (HJ.out O O _ _ _ HJ1.out hgA (Claims.refl _ _ _))
        clear hN hgA hx1 hx0 hw0
        gi_wp2_with fail
        refine ⟨fun _ h => (by cases h), ?_⟩
        gi_wp2_with fail
        refine bodyPost_ret (results_none rfl _ _ _) rfl ?_
        have hj := HJ2.out
        rw [HN.out] at hj
        exact ⟨⟨_, rfl⟩, .inl ⟨O, q', HOO.out, hj, HL1.out.grown ((Below.refl W1.heap.size W1).alloc (Nat.le_refl _) _), by omega⟩⟩
    · have hN : (hi + 1 - lo).toNat = k := by omega
      have HN := Lib.hid hN
      clear hN
      gi_wp2_with fail
      go_end0
      exact ⟨⟨_, rfl⟩, .inl ⟨O, q, HOO.out, by rw [HN.out]; exact HJJ.out, HLA.out, by omega⟩⟩
end Go.Proofs.YtcdodfehnkgjdaaGreatDoor
