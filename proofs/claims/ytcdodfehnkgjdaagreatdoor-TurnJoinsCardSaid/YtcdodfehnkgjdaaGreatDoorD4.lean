/- Contract of sweep.gap: the first integer from a minute on that no lot has, or one behind hi. -/
import Derived.Test.YtcdodfehnkgjdaaGreatDoorD3
namespace Go.Proofs.YtcdodfehnkgjdaaGreatDoor
open Go.RowKit

theorem Lanes.later {bs : List Nat} {xs : List Lot} {P n : Int} {w : World} (h : Lanes bs xs P w) (hok : ∀ x ∈ xs, x.ok) (h1 : P ≤ n) (hn : n ≤ 1099511627776) : Lanes bs xs n w :=
  ⟨h.1, h.2.1, fun k b x hb hx => by
    obtain ⟨lo, hi, l1, l2⟩ := h.2.2 k b x hb hx
    exact ⟨lo, hi, l1, Lot.kept_later (hok x (List.mem_of_getElem? hx)) l2 h1 hn⟩⟩
theorem Lanes.ask {bs : List Nat} {xs : List Lot} {n : Int} {i b : Nat} {x : Lot} {w w' : World} (h : Lanes bs xs n w) (hb : bs[i]? = some b) (hx : xs[i]? = some x)
    (hl : Lane b x.val (x.lo n) (x.hi n) w') (hg : w.grownBy w' (some b)) : Lanes bs xs n w' := by
  have h0 : LanesAt bs xs n n i w := ⟨h.1, h.2.1, fun k b x hb hx => by simpa using h.2.2 k b x hb hx⟩
  have h1 := h0.step hb hx hl hg
  exact ⟨h1.1, h1.2.1, fun k b x hb hx => by simpa using h1.2.2 k b x hb hx⟩
theorem Lanes.grown {bs : List Nat} {xs : List Lot} {n : Int} {w w' : World} (h : Lanes bs xs n w) (hb : Below w.heap.size w w') : Lanes bs xs n w' :=
  ⟨h.1, h.2.1, fun k b x h1 h2 => by
    obtain ⟨lo, hi, l1, l2⟩ := h.2.2 k b x h1 h2
    exact ⟨lo, hi, l1.below hb l1.lt, l2⟩⟩

/-- What gap finds. -/
def GapIs (xs : List Lot) (n hi r : Int) : Prop :=
  n ≤ r ∧ r ≤ 1100000 ∧ (∀ m, n ≤ m → m < r → m ≤ 1048576 → ∃ x ∈ xs, x.has m) ∧ (hi < r ∨ ∀ x ∈ xs, ¬ x.has r)
def GapPost (bs : List Nat) (xs : List Lot) (n hi : Int) (w : World) (e : Ending) (w' : World) : Prop :=
  ∃ r q, GapIs xs n hi r ∧ n ≤ q ∧ q ≤ r ∧ (q ≤ hi ∨ q = n) ∧ e = .returned (.int .i64 r) ∧ Lanes bs xs q w' ∧ GrownL bs w w'

theorem Lot.hi_le {x : Lot} (h : x.ok) {n : Int} (hn : n ≤ 1048577) (hl : x.lo n ≤ n) : x.hi n ≤ 1099000 := by
  obtain ⟨k, a, b, c⟩ := x
  cases k
  · simp only [Lot.lo, Lot.hi, sFrom, sFromHi, Lot.ok, SOk, Bool.false_eq_true, if_false] at *
    split at hl <;> split <;> omega
  · simp only [Lot.lo, Lot.hi, Lot.ok, TOk, if_true] at *
    omega

set_option maxHeartbeats 4000000 in
set_option maxRecDepth 100000 in
theorem gap_any (bs : List Nat) (xs : List Lot) (A : Option Addr) (c : Nat) (P n hi : Int) (w : World) (hok : ∀ x ∈ xs, x.ok) (h : Lanes bs xs P w) (hp : Ptrs bs A w) (h1 : P ≤ n) (h2 : 0 ≤ n) (h3 : n ≤ 1048577) (h4 : hi ≤ 1048576) (hlen : bs.length ≤ 100) :
    Calls Tryz.prog 105 #[.agg #[.slice A bs.length c], .int .i64 n, .int .i64 hi] w (GapPost bs xs n hi w) := by
  have HL := Lib.hid ((h.later hok h1 (by omega)).grown ((Below.refl _ _).alloc (Nat.le_refl _) (.cells #[.slice A bs.length c] 124)))
  have G0 := Lib.hid (GrownL.of_below (bs := bs) ((Below.refl w.heap.size w).alloc (Nat.le_refl _) (.cells #[.slice A bs.length c] 124)))
  have HP := Lib.hid hp
  have HOK := Lib.hid hok
  have hnb : w.heap.size ∉ bs := by
    intro hm
    obtain ⟨k, hk⟩ := List.mem_iff_getElem?.1 hm
    have hkb := (List.getElem?_eq_some_iff.1 hk).1
    obtain ⟨lo, hi, l1, _⟩ := h.2.2 k _ (xs[k]'(by have := h.1; omega)) hk (List.getElem?_eq_getElem (by have := h.1; omega))
    have := l1.lt
    omega
  have HX := Lib.hid h.1
  have HNB := Lib.hid hnb
  clear h hp hok hnb h1
  go_enter Tryz.func105, Tryz.ntmps105
  go_wp2_with fail
  go_step3
  go_wp2_with fail
  go_step3
  go_wp2_with fail
  go_loopg [1] (1200000 - n).toNat (fun g u wr => ∃ a q : Int, u = .int .i64 a ∧ n ≤ a ∧ a ≤ 1100000 ∧ g = (1200000 - a).toNat ∧ (∀ m, n ≤ m → m < a → m ≤ 1048576 → ∃ x ∈ xs, x.has m) ∧ n ≤ q ∧ q ≤ a ∧ (q ≤ hi ∨ q = n) ∧ Lanes bs xs q wr ∧ wr.cell? ⟨w.heap.size, 0, none⟩ = some (.slice A bs.length c) ∧ GrownL bs w wr)
  case atStart => exact ⟨n, n, rfl, by omega, by omega, rfl, fun m _ _ => by omega, by omega, by omega, .inr rfl, HL.out, by simp [go_sem], G0.out⟩
  case round =>
    obtain ⟨a, q, rfl, ha1, ha2, hgk, hcov, hq1, hq2, hq3, hla, hbx, hgr⟩ := hrel
    have HQ3 := Lib.hid hq3
    have HQA := Lib.hid (hla.later HOK.out hq2 (by omega))
    clear hq3
    have HCov := Lib.hid hcov
    have HGK := Lib.hid hgk
    have HA := Lib.hid hla
    have HG := Lib.hid hgr
    clear hcov hla hgr hgk
    by_cases hah : a ≤ hi
    · have HBX := Lib.hid hbx
      obtain ⟨go_, hgo⟩ : ∃ g, g = gk := ⟨_, rfl⟩
      have HGO := Lib.hid hgo
      clear hgo
      obtain ⟨wo, rfl⟩ : ∃ wo : World, wo = wr := ⟨_, rfl⟩
      go_wp2_with fail
      clear hbx
      go_loopg [1, 16] bs.length (fun g u v wr => ∃ k : Nat, u = .int .i64 a ∧ v = .int .i64 k ∧ k + g = bs.length ∧ (∀ j x, j < k → xs[j]? = some x → ¬ x.has a) ∧ Lanes bs xs a wr ∧ wr.cell? ⟨w.heap.size, 0, none⟩ = some (.slice A bs.length c) ∧ GrownL bs w wr)
      case atStart => exact ⟨0, rfl, rfl, by omega, fun j x hj => by omega, HQA.out, HBX.out, HG.out⟩
      case round =>
        obtain ⟨k, rfl, rfl, hkg, hno, hla, hbx, hgr⟩ := hrel
        have HNo := Lib.hid hno
        have HA2 := Lib.hid hla
        have HG2 := Lib.hid hgr
        have HBX2 := Lib.hid hbx
        have HKG := Lib.hid hkg
        have hkl : k ≤ bs.length := by omega
        clear hno hla hgr hbx hkg
        by_cases hkn : k < bs.length
        · obtain ⟨g, rfl, hgn, hcs⟩ := HP.out (by omega)
          obtain ⟨b, hb⟩ : ∃ b, bs[k]? = some b := ⟨_, List.getElem?_eq_getElem hkn⟩
          obtain ⟨x, hx⟩ : ∃ x, xs[k]? = some x := ⟨_, List.getElem?_eq_getElem (by have := HX.out; omega)⟩
          have hk0 : (k : Int) < (bs.length : Int) := by omega
          have hcell := HG2.out.cell (hcs k b hb) hgn
          obtain ⟨lo, hi2, L1, L2⟩ := HA2.out.2.2 k b x hb hx
          have hxo := HOK.out x (List.mem_of_getElem? hx)
          have C := Lib.hid (laneFrom_any x hxo b lo hi2 a a wr L1 L2 (by omega) (by omega) (by omega))
          have SP := Lib.hid (Lot.spec hxo a (by omega))
          have HB := Lib.hid hb
          have HX2 := Lib.hid hx
          clear hb hx L1 L2 hcs
          go_wp2_with fail
          refine C.out.mono ?_
          rintro e w4 ⟨rfl, l4, g4⟩
          have A4 := Lib.hid (HA2.out.ask HB.out HX2.out l4 g4)
          have G1 := GrownL.of_one g4 (List.mem_of_getElem? HB.out)
          have G4 := Lib.hid (HG2.out.trans G1)
          have q4 := G1.cell HBX2.out HNB.out
          have Q4 := Lib.hid q4
          have hz4 : w.heap.size < w4.heap.size := World.block_lt_of_cell? _ _ q4
          have HLE := Lib.hid (Lot.hi_le hxo (n := a) (by omega))
          have HXM := Lib.hid (List.mem_of_getElem? HX2.out)
          clear l4 g4 G1 C hcell q4
          have SP1 := SP.out.1
          generalize x.lo a = z at *
          generalize x.hi a = z2 at *
          by_cases cz : z ≤ a
          · have hz2 := HLE.out cz
            go_wp2_with fail
            go_roundg (1200000 - (z2 + 1)).toNat
            case measure => have := HGK.out; omega
            case rel =>
              refine ⟨z2 + 1, a, rfl, by omega, by omega, rfl, ?_, by omega, by omega, .inl (by omega), A4.out.grown ((Below.refl _ _).alloc (Nat.le_refl _) _), (World.cell?_alloc_lt _ _ _ hz4).trans Q4.out, G4.out.trans (GrownL.of_below ((Below.refl _ _).alloc (Nat.le_refl _) _))⟩
              intro m m0 m1 m2
              by_cases cm : m < a
              · exact HCov.out m m0 cm m2
              · exact ⟨x, HXM.out, SP.out.2.2 m (by omega) (by omega) m2⟩
          · go_wp2_with fail
            go_roundg (gk - 1)
            case measure => have := HKG.out; omega
            case rel =>
              refine ⟨k + 1, rfl, by go_num, by have := HKG.out; omega, ?_, A4.out.grown ((Below.refl _ _).alloc (Nat.le_refl _) _), (World.cell?_alloc_lt _ _ _ hz4).trans Q4.out, G4.out.trans (GrownL.of_below ((Below.refl _ _).alloc (Nat.le_refl _) _))⟩
              intro j y hj hy
              by_cases e : j = k
              · subst e
                obtain rfl : x = y := Option.some.inj (HX2.out.symm.trans hy)
                exact SP.out.2.1 a (by omega) (by omega) (by omega)
              · exact HNo.out j y (by omega) hy
        · have hk0 : (bs.length : Int) ≤ (k : Int) := by omega
          have hr : GapIs xs n hi a := ⟨ha1, ha2, HCov.out, .inr (fun x hx => by
            obtain ⟨j, hj⟩ := List.mem_iff_getElem?.1 hx
            exact HNo.out j x (by have := (List.getElem?_eq_some_iff.1 hj).1; have := HX.out; omega) hj)⟩
          have HR := Lib.hid hr
          clear hr
          go_wp2_with fail
          go_ret
          exact ⟨a, a, HR.out, by omega, by omega, .inl (by omega), rfl, HA2.out, HG2.out⟩
    · have hr : GapIs xs n hi a := ⟨ha1, ha2, HCov.out, .inl (by omega)⟩
      have HR := Lib.hid hr
      clear hbx hr
      go_wp2_with fail
      go_ret
      exact ⟨a, q, HR.out, hq1, hq2, HQ3.out, rfl, HA.out, HG.out⟩
end Go.Proofs.YtcdodfehnkgjdaaGreatDoor
