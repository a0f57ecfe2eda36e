/- Contract of the least over lanes. -/
import Derived.Test.YtcdodfehnkgjdaaGreatDoorD2
import Derived.Test.YtcdodfehnkgjdaaGreatDoorR0
namespace Go.Proofs.YtcdodfehnkgjdaaGreatDoor
open Go.RowKit

/-- The lanes of a sweep lie in the blocks bs, each keeping a run that serves from P on. -/
def Lanes (bs : List Nat) (xs : List Lot) (P : Int) (w : World) : Prop :=
  bs.length = xs.length ∧ bs.Nodup ∧ ∀ (k b : Nat) (x : Lot), bs[k]? = some b → xs[k]? = some x → ∃ lo hi, Lane b x.val lo hi w ∧ x.kept lo hi P
/-- The lanes at round k: those before have been asked at n, the others wait at P. -/
def LanesAt (bs : List Nat) (xs : List Lot) (P n : Int) (i : Nat) (w : World) : Prop :=
  bs.length = xs.length ∧ bs.Nodup ∧ ∀ (k b : Nat) (x : Lot), bs[k]? = some b → xs[k]? = some x → ∃ lo hi, Lane b x.val lo hi w ∧ x.kept lo hi (if k < i then n else P)
theorem LanesAt.zero {bs : List Nat} {xs : List Lot} {P n : Int} {w : World} (h : Lanes bs xs P w) : LanesAt bs xs P n 0 w := ⟨h.1, h.2.1, fun k b x hb hx => by simpa using h.2.2 k b x hb hx⟩
theorem LanesAt.all {bs : List Nat} {xs : List Lot} {P n : Int} {i : Nat} {w : World} (h : LanesAt bs xs P n i w) (hi : bs.length ≤ i) : Lanes bs xs n w :=
  ⟨h.1, h.2.1, fun k b x hb hx => by
    have hk := (List.getElem?_eq_some_iff.1 hb).1
    have := h.2.2 k b x hb hx
    rwa [if_pos (by omega)] at this⟩
theorem LanesAt.step {bs : List Nat} {xs : List Lot} {P n : Int} {i b : Nat} {x : Lot} {w w' : World} (h : LanesAt bs xs P n i w) (hb : bs[i]? = some b) (hx : xs[i]? = some x)
    (hl : Lane b x.val (x.lo n) (x.hi n) w') (hg : w.grownBy w' (some b)) : LanesAt bs xs P n (i + 1) w' := by
  refine ⟨h.1, h.2.1, fun k b' x' hb' hx' => ?_⟩
  by_cases e : k = i
  · subst e
    obtain rfl : b = b' := Option.some.inj (hb.symm.trans hb')
    obtain rfl : x = x' := Option.some.inj (hx.symm.trans hx')
    exact ⟨_, _, hl, by rw [if_pos (by omega)]; exact Lot.kept_new x n⟩
  · obtain ⟨lo, hi, h1, h2⟩ := h.2.2 k b' x' hb' hx'
    have hne : b' ≠ b := by
      rintro rfl
      obtain ⟨l1, e1⟩ := List.getElem?_eq_some_iff.1 hb'
      obtain ⟨l2, e2⟩ := List.getElem?_eq_some_iff.1 hb
      have hp := List.pairwise_iff_getElem.1 h.2.1
      rcases Nat.lt_or_gt_of_ne e with q | q
      · exact hp k i l1 l2 q (e1.trans e2.symm)
      · exact hp i k l2 l1 q (e2.trans e1.symm)
    refine ⟨lo, hi, h1.same (hg.block b' h1.lt (fun q => hne (Option.some.inj q))), ?_⟩
    by_cases c : k < i
    · rw [if_pos c] at h2; rw [if_pos (by omega)]; exact h2
    · rw [if_neg c] at h2; rw [if_neg (by omega)]; exact h2

/-- A slice of pointers to the lanes, in a block that is none of theirs; nil or not. -/
def Ptrs (bs : List Nat) (A : Option Addr) (w : World) : Prop := 0 < bs.length → ∃ g, A = some ⟨g, 0, none⟩ ∧ g ∉ bs ∧ ∀ (k b : Nat), bs[k]? = some b → w.cell? ⟨g, k, none⟩ = some (.pointer (some ⟨b, 0, none⟩))
theorem Ptrs.grown {bs : List Nat} {A : Option Addr} {w w' : World} (h : Ptrs bs A w) (hg : GrownL bs w w') : Ptrs bs A w' := fun hp => by
  obtain ⟨g, e, hn, hc⟩ := h hp
  exact ⟨g, e, hn, fun k b hb => hg.cell (hc k b hb) hn⟩

/-- The least of where the runs from n on begin (or n). -/
def leastLo (xs : List Lot) (n : Int) : Int := (xs.map fun x => mx (x.lo n) n).foldl mn 1099511627776
def LeastPost (bs : List Nat) (xs : List Lot) (n m : Int) (w : World) (e : Ending) (w' : World) : Prop :=
  e = .returned (.int .i64 m) ∧ Lanes bs xs n w' ∧ GrownL bs w w'

set_option maxHeartbeats 2000000 in
set_option maxRecDepth 100000 in
theorem leastLane_any (bs : List Nat) (xs : List Lot) (A : Option Addr) (c gx : Nat) (P n : Int) (w : World) (hok : ∀ x ∈ xs, x.ok) (h : Lanes bs xs P w) (hp : Ptrs bs A w) (h1 : P ≤ n) (h2 : 0 ≤ n) (h3 : n ≤ 1048577)
    (hc : w.cell? ⟨gx, 0, none⟩ = some (.int .i64 n)) (hgx : gx ∉ bs) (hlen : bs.length ≤ 100) :
    Calls Tryz.prog 102 #[.slice A bs.length c, .func (.func 103) #[] #[.pointer (some ⟨gx, 0, none⟩)]] w (LeastPost bs xs n (leastLo xs n) w) := by
  have HM : Hid ((xs.map fun x => mx (x.lo n) n).foldl mn 1099511627776 = leastLo xs n) := Lib.hid rfl
  generalize leastLo xs n = M at *
  have HL := Lib.hid h
  have HP := Lib.hid hp
  have HC := Lib.hid hc
  have hlx := h.1
  have HOK := Lib.hid hok
  clear h hp hc hok
  have HX := Lib.hid hlx
  clear hlx
  go_enter Tryz.func102, Tryz.ntmps102
  go_wp2_with fail
  go_loopw [5, 10] (fun u v wr => ∃ k : Nat, v = .int .i64 k ∧ k ≤ bs.length ∧ u = .int .i64 (((xs.map fun x => mx (x.lo n) n).take k).foldl mn 1099511627776) ∧ LanesAt bs xs P n k wr ∧ GrownL bs w wr) (fun _ v _ => bs.length - (intOf v).toNat)
  case atStart => exact ⟨0, rfl, by omega, rfl, LanesAt.zero HL.out, GrownL.refl _ _⟩
  case round =>
    obtain ⟨k, rfl, hk, rfl, hla, hgr⟩ := hrel
    have HA := Lib.hid hla
    have HG := Lib.hid hgr
    clear hla hgr
    by_cases hkn : k < bs.length
    · obtain ⟨g, rfl, hgn, hcs⟩ := HP.out (by omega)
      obtain ⟨b, hb⟩ : ∃ b, bs[k]? = some b := ⟨_, List.getElem?_eq_getElem hkn⟩
      obtain ⟨x, hx⟩ : ∃ x, xs[k]? = some x := ⟨_, List.getElem?_eq_getElem (by have := HX.out; omega)⟩
      have hk0 : (k : Int) < (bs.length : Int) := by omega
      have hcell := HG.out.cell (hcs k b hb) hgn
      have hcx := HG.out.cell HC.out hgx
      obtain ⟨lo, hi, L1, L2⟩ := HA.out.2.2 k b x hb hx
      rw [if_neg (by omega)] at L2
      have hxo := HOK.out x (List.mem_of_getElem? hx)
      have hne : gx ≠ b := fun e => hgx (by rw [e]; exact List.mem_of_getElem? hb)
      have C := Lib.hid (step_any x hxo b gx lo hi P n wr L1 L2 h1 h2 h3 hcx (World.block_lt_of_cell? _ _ hcx) hne)
      have HB := Lib.hid hb
      have HX2 := Lib.hid hx
      have HT : Hid (((xs.map fun x => mx (x.lo n) n).take (k + 1)).foldl mn 1099511627776 = mn (((xs.map fun x => mx (x.lo n) n).take k).foldl mn 1099511627776) (mx (x.lo n) n)) := Lib.hid (by
        rw [take_map_snoc (fun x => mx (x.lo n) n) xs k x hx, List.foldl_append]; rfl)
      generalize ((xs.map fun x => mx (x.lo n) n).take k).foldl mn 1099511627776 = acc at *
      clear hb hx L1 L2 hcs hcx
      go_wp2_with fail
      refine C.out.mono ?_
      rintro e w4 ⟨rfl, l4, g4⟩
      have A4 := Lib.hid (HA.out.step HB.out HX2.out l4 g4)
      have G4 := Lib.hid (HG.out.trans (GrownL.of_one g4 (List.mem_of_getElem? HB.out)))
      clear l4 g4 C
      generalize mx (x.lo n) n = m at *
      by_cases c' : m < acc
      all_goals
        go_wp2_with fail
        go_roundw
      · exact ⟨k + 1, by go_num, by omega, by rw [HT.out, mn, if_pos c'], A4.out, G4.out⟩
      · show bs.length - ((k : Int) + 1).toNat < bs.length - (k : Int).toNat; omega
      · exact ⟨k + 1, by go_num, by omega, by rw [HT.out, mn, if_neg (by omega)], A4.out, G4.out⟩
      · show bs.length - ((k : Int) + 1).toNat < bs.length - (k : Int).toNat; omega
    · have hk0 : (bs.length : Int) ≤ (k : Int) := by omega
      have HE : Hid (((xs.map fun x => mx (x.lo n) n).take k).foldl mn 1099511627776 = M) := Lib.hid (by rw [List.take_of_length_le (by have := HX.out; simp; omega)]; exact HM.out)
      generalize ((xs.map fun x => mx (x.lo n) n).take k).foldl mn 1099511627776 = acc at *
      go_wp2_with fail
      go_ret
      exact ⟨ret_int HE.out, HA.out.all (by omega), HG.out⟩
end Go.Proofs.YtcdodfehnkgjdaaGreatDoor
