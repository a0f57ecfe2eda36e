/- Plain mathematics: what two sets have in common, run by run. -/
import Derived.Test.YtlhgpeelenelbaaDoorVA
import Derived.Test.YtlhgpeelenelbaaDoorE6
import Derived.Test.YtlhgpeelenelbaaDoorHB
import Derived.Test.YtlhgpeelenelbaaDoorE4
import Derived.Test.YtlhgpeelenelbaaDoorE7
import Derived.Test.YtlhgpeelenelbaaDoorJK
import Derived.BigQuiet
namespace Go.Proofs.YtlhgpeelenelbaaDoor

def andH (H H' : Int → Bool) (m : Int) : Bool := H m && H' m
theorem more_append (a b : List (Int × Int)) (m : Int) (hb : b ≠ []) : more (a ++ b) m = a ++ more b m := by
  rcases list_cases b with rfl | ⟨i, x, rfl⟩
  · exact absurd rfl hb
  · rw [← List.append_assoc, more_snoc, more_snoc]
    split <;> simp
theorem spn_break (H : Int → Bool) (lo : Int) (k : Nat) (h0 : k = 0 ∨ H (lo + k - 1) = false) : ∀ d : Nat, spn H lo (k + d) = spn H lo k ++ spn H (lo + k) d
  | 0 => by simp [spn]
  | d + 1 => by
    have ih := spn_break H lo k h0 d
    show (if H (lo + ((k + d : Nat) : Int)) = true then more (spn H lo (k + d)) (lo + ((k + d : Nat) : Int)) else spn H lo (k + d)) = spn H lo k ++ (if H (lo + k + d) = true then more (spn H (lo + k) d) (lo + k + d) else spn H (lo + k) d)
    rw [show lo + ((k + d : Nat) : Int) = lo + k + d by omega, ih]
    split
    · by_cases hb : spn H (lo + k) d = []
      · rw [hb, List.append_nil, more_empty]
        rcases list_cases (spn H lo k) with e | ⟨i, y, e⟩
        · rw [e]; rfl
        · have hy := spn_in H lo k y (by rw [e]; simp)
          rw [e, more_snoc, if_neg]
          intro hc
          have h2 := hy.2.2.1
          have h1 := hy.1
          have h3 := hy.2.1
          rcases h0 with h0 | h0
          · omega
          · have := hy.2.2.2 y.2 h3 (Int.le_refl _)
            rw [show y.2 = lo + k - 1 by omega, h0] at this
            cases this
      · exact more_append _ _ _ hb
    · rfl
theorem spn_congr {H H' : Int → Bool} {lo : Int} : ∀ {d : Nat}, (∀ m, lo ≤ m → m < lo + d → H m = H' m) → spn H lo d = spn H' lo d
  | 0, _ => rfl
  | d + 1, h => by
    have ih := spn_congr (H := H) (H' := H') (lo := lo) (d := d) fun m h1 h2 => h m h1 (by omega)
    unfold spn
    rw [ih, h _ (by omega) (by omega)]
theorem spn_last {H : Int → Bool} {lo : Int} : ∀ {k : Nat}, H (lo + k) = true → ∃ i y, spn H lo (k + 1) = i ++ [y] ∧ y.2 = lo + k := by
  intro k h
  have e : spn H lo (k + 1) = more (spn H lo k) (lo + k) := by
    show (if H (lo + k) = true then _ else _) = _
    rw [if_pos h]
  rw [e]
  rcases list_cases (spn H lo k) with e | ⟨i, y, e⟩
  · rw [e, more_empty]; exact ⟨[], _, rfl, rfl⟩
  · rw [e, more_snoc]
    split
    · exact ⟨i, _, rfl, rfl⟩
    · exact ⟨i ++ [y], _, rfl, rfl⟩

/-- Where the last run begins, and what came ahead of it. -/
theorem spn_prefix {H : Int → Bool} {lo : Int} : ∀ {k : Nat} {pre : List (Int × Int)} {x : Int × Int}, pre ++ [x] = spn H lo k → pre = spn H lo (x.1 - lo).toNat ∧ (x.1 = lo ∨ H (x.1 - 1) = false) ∧ lo ≤ x.1 ∧ x.1 ≤ x.2 ∧ x.2 < lo + k ∧ ∀ m, x.1 ≤ m → m ≤ x.2 → H m = true
  | 0, pre, x, h => by simp [spn] at h
  | k + 1, pre, x, h => by
    have hx := spn_in H lo (k + 1) x (by rw [← h]; simp)
    suffices hs : pre = spn H lo (x.1 - lo).toNat ∧ (x.1 = lo ∨ H (x.1 - 1) = false) from ⟨hs.1, hs.2, hx⟩
    unfold spn at h
    split at h
    · rename_i hH
      rcases list_cases (spn H lo k) with e | ⟨i, y, e⟩
      · rw [e, more_empty] at h
        have h' : pre ++ [x] = [] ++ [(lo + (k : Int), lo + (k : Int))] := h
        obtain ⟨rfl, h2⟩ := List.append_inj' h' rfl
        obtain rfl : x = (lo + (k : Int), lo + (k : Int)) := by simpa using h2
        refine ⟨?_, ?_⟩
        · show [] = spn H lo (lo + (k : Int) - lo).toNat
          rw [show (lo + (k : Int) - lo).toNat = k by omega, e]
        · rcases k with _ | k
          · left; show lo + ((0 : Nat) : Int) = lo; omega
          · right
            show H (lo + ((k + 1 : Nat) : Int) - 1) = false
            rw [show lo + ((k + 1 : Nat) : Int) - 1 = lo + k by omega]
            cases hh : H (lo + k)
            · rfl
            · obtain ⟨i, y, e', _⟩ := spn_last (k := k) hh
              rw [e'] at e; simp at e
      · rw [e, more_snoc] at h
        split at h
        · obtain ⟨rfl, h2⟩ := List.append_inj' h rfl
          obtain rfl : x = (y.1, lo + (k : Int)) := by simpa using h2
          have ih := spn_prefix (k := k) e.symm
          exact ⟨ih.1, ih.2.1⟩
        · rename_i hy
          obtain ⟨rfl, h2⟩ := List.append_inj' h rfl
          obtain rfl : x = (lo + (k : Int), lo + (k : Int)) := by simpa using h2
          refine ⟨?_, ?_⟩
          · show i ++ [y] = spn H lo (lo + (k : Int) - lo).toNat
            rw [show (lo + (k : Int) - lo).toNat = k by omega, e]
          · right
            show H (lo + (k : Int) - 1) = false
            rcases k with _ | k
            · simp [spn] at e
            · rw [show lo + ((k + 1 : Nat) : Int) - 1 = lo + k by omega]
              cases hh : H (lo + k)
              · rfl
              · obtain ⟨i', y', e', hy'⟩ := spn_last (k := k) hh
                rw [e'] at e
                obtain ⟨_, h3⟩ := List.append_inj' e rfl
                obtain rfl : y' = y := by simpa using h3
                exact absurd (by rw [hy']; omega) hy
    · obtain ⟨h1, h2, _⟩ := spn_prefix (k := k) h
      exact ⟨h1, h2⟩

/-- The common spans, run by run. -/
def bothOf (H' : Int → Bool) (p : List (Int × Int)) : List (Int × Int) := p.flatMap fun x => spn H' x.1 (x.2 + 1 - x.1).toNat
theorem bothOf_snoc (H' : Int → Bool) (p : List (Int × Int)) (x : Int × Int) : bothOf H' (p ++ [x]) = bothOf H' p ++ spn H' x.1 (x.2 + 1 - x.1).toNat := by simp [bothOf, List.flatMap_append]
theorem both_eq (H H' : Int → Bool) (lo : Int) (k : Nat) : bothOf H' (spn H lo k) = spn (andH H H') lo k ∧ ∀ (pre : List (Int × Int)) (x : Int × Int), pre ++ [x] = spn H lo k → ∀ j : Nat, x.1 + j ≤ x.2 + 1 → bothOf H' pre ++ spn H' x.1 j = spn (andH H H') lo ((x.1 - lo).toNat + j) := by
  induction k using Nat.strongRecOn with
  | _ k ih =>
    have part : ∀ (pre : List (Int × Int)) (x : Int × Int), pre ++ [x] = spn H lo k → ∀ j : Nat, x.1 + j ≤ x.2 + 1 → bothOf H' pre ++ spn H' x.1 j = spn (andH H H') lo ((x.1 - lo).toNat + j) := by
      intro pre x hp j hj
      obtain ⟨p1, p2, p3, p4, p5, p6⟩ := spn_prefix hp
      have hi := (ih (x.1 - lo).toNat (by omega)).1
      rw [← p1] at hi
      rw [hi, spn_break (andH H H') lo (x.1 - lo).toNat (by
        rcases p2 with p2 | p2
        · left; omega
        · right; rw [show lo + ((x.1 - lo).toNat : Int) - 1 = x.1 - 1 by omega]; simp [andH, p2])]
      rw [show lo + ((x.1 - lo).toNat : Int) = x.1 by omega]
      congr 1
      exact spn_congr fun m h1 h2 => by simp [andH, p6 m h1 (by omega)]
    refine ⟨?_, part⟩
    have hg := gap_inv H lo k
    rcases list_cases (spn H lo k) with e | ⟨pre, x, e⟩
    · rw [e] at hg ⊢
      show [] = _
      have := spn_gap (andH H H') lo 0 k (fun m h1 h2 => by
        have := hg.none m (by show lo ≤ m; omega) (by omega)
        simp [andH, this])
      rw [Nat.zero_add] at this
      rw [this]; rfl
    · have hp := part pre x e.symm (x.2 + 1 - x.1).toNat
      obtain ⟨p1, p2, p3, p4, p5, p6⟩ := spn_prefix e.symm
      rw [e, bothOf_snoc, hp (by omega)]
      rw [e, gapsAt_snoc] at hg
      have := spn_gap (andH H H') lo ((x.1 - lo).toNat + (x.2 + 1 - x.1).toNat) (k - ((x.1 - lo).toNat + (x.2 + 1 - x.1).toNat)) (fun m h1 h2 => by
        have := hg.none m (by show x.2 + 1 ≤ m; omega) (by omega)
        simp [andH, this])
      rw [show (x.1 - lo).toNat + (x.2 + 1 - x.1).toNat + (k - ((x.1 - lo).toNat + (x.2 + 1 - x.1).toNat)) = k by omega] at this
      exact this.symm
end Go.Proofs.YtlhgpeelenelbaaDoor

/- Contract of the closure of sweep.within for a sweep that goes on: what it leaves of the lanes; and as an iterator that is handed the sweep's blocks. -/
namespace Go.Proofs.YtlhgpeelenelbaaDoor
open Go.RowKit
attribute [local go_sem] Oper.semAt_some

/-- The lanes as they stand behind a span, and where they are found. -/
def LanesTo (bs : List Nat) (xs : List Lot) (A : Option Addr) (hi : Int) (V : World) : Prop := ∃ q, Lanes bs xs q V ∧ q ≤ hi + 1 ∧ Ptrs bs A V
def WithinPostK (bs : List Nat) (xs : List Lot) (A : Option Addr) (lo hi : Int) (O0 : List Nat) (J Jx : List Nat → List S2 → World → Prop) (e : Ending) (W' : World) : Prop :=
  (∃ v, e = .returned v) ∧ ((∃ O, (∀ o ∈ O0, o ∈ O) ∧ J O (spn (setB xs) lo (hi + 1 - lo).toNat) W' ∧ LanesTo bs xs A hi W') ∨ (∃ O, ∃ k : Nat, lo + k ≤ hi + 1 ∧ Jx O (spn (setB xs) lo k) W'))

set_option maxHeartbeats 4000000 in
set_option maxRecDepth 1000000 in
theorem within1K_any (l : Nat) (bs : List Nat) (xs : List Lot) (A : Option Addr) (c gx gw : Nat) (P lo hi : Int) (O0 : List Nat) (J Jx : List Nat → List S2 → World → Prop) (w : World)
    (hok : ∀ x ∈ xs, x.ok) (hbs : ∀ b ∈ bs, b ∈ O0) (hgx : gx ∈ O0) (hgw : gw ∈ O0) (hgxn : gx ∉ bs) (hgwn : gw ∉ bs) (hA : ∀ g, A = some ⟨g, 0, none⟩ → g ∈ O0)
    (hJ : ∀ O O' s W1 W2, J O s W1 → GrownL O W1 W2 → Claims O O' W1 W2 → J O' s W2)
    (hY : RoundsOf l xs lo hi J Jx)
    (h : Lanes bs xs P w) (hp : Ptrs bs A w) (h1 : P ≤ lo) (h2 : 0 ≤ lo) (h3 : lo ≤ hi + 1) (h4 : hi ≤ 1048576) (hlen : bs.length ≤ 100)
    (hcx0 : w.cell? ⟨gx, 0, none⟩ = some (.int .i64 lo)) (hcx1 : w.cell? ⟨gx, 1, none⟩ = some (.int .i64 hi)) (hcw : w.cell? ⟨gw, 0, none⟩ = some (.slice A bs.length c)) (h0 : J O0 [] w) :
    Calls Tryd.prog 138 #[.func (.yield l) #[] #[], .pointer (some ⟨gx, 0, none⟩), .pointer (some ⟨gw, 0, none⟩)] w (WithinPostK bs xs A lo hi O0 J Jx) := by
  have HOK := Lib.hid hok
  have HBS := Lib.hid hbs
  have HA := Lib.hid hA
  have HJ := Lib.hid hJ
  have HY := Lib.hid hY
  have HL := Lib.hid h
  have HP := Lib.hid hp
  have HX0 := Lib.hid hcx0
  have HX1 := Lib.hid hcx1
  have HW := Lib.hid hcw
  have H0 := Lib.hid h0
  have HGX := Lib.hid (And.intro hgx hgxn)
  have HGW := Lib.hid (And.intro hgw hgwn)
  clear hok hbs hA hJ hY h hp hcx1 hcw h0 hgx hgxn hgw hgwn
  refine (callsIn_wide (n := 3)).1 ?_
  refine callsIn_of_wp Tryd.func138 rfl trivial ?_ rfl
  simp only [Tryd.ntmps138, List.size_toArray, List.length_cons, List.length_nil, Nat.reduceAdd, Nat.reduceSub, Array.replicate_succ, Array.replicate_zero, List.push_toArray, List.append_toArray, List.nil_append, List.cons_append]
  gi_wp2
  clear hcx0
  gi_loopw [4] (fun u wr => ∃ (O : List Nat) (k : Nat) (q : Int), u = .int .i64 (lo + k) ∧ lo + k ≤ hi + 1 ∧ Stands (setB xs) lo hi k ∧ (∀ o ∈ O0, o ∈ O) ∧ J O (spn (setB xs) lo k) wr ∧ Lanes bs xs q wr ∧ q ≤ lo + k ∧ Ptrs bs A wr ∧
      wr.cell? ⟨gx, 0, none⟩ = some (.int .i64 lo) ∧ wr.cell? ⟨gx, 1, none⟩ = some (.int .i64 hi) ∧ wr.cell? ⟨gw, 0, none⟩ = some (.slice A bs.length c)) (fun u _ => (hi + 1 - intOf u).toNat)
  case atStart => exact ⟨O0, 0, P, by simp, by omega, .inl rfl, fun _ h => h, H0.out, HL.out, by omega, HP.out, HX0.out, HX1.out, HW.out⟩
  case round =>
    obtain ⟨O, k, q, rfl, hk, hst, hoo, hj, hla, hq, hpt, hx0, hx1, hw0⟩ := hrel
    have HOO := Lib.hid hoo
    have HST := Lib.hid hst
    have HJJ := Lib.hid hj
    have HLA := Lib.hid hla
    have HPT := Lib.hid hpt
    have HX0' := Lib.hid hx0
    have HX1' := Lib.hid hx1
    have HW0' := Lib.hid hw0
    clear hst hj hla hpt hoo
    by_cases hlt : lo + k ≤ hi
    · have C := Lib.hid (sweepNext_any bs xs A c q (lo + k) hi wr HOK.out HLA.out HPT.out hq (by omega) (by omega) h4 hlen)
      gi_wp2_with fail
      refine ⟨trivial, (callsIn_wide.2 C.out).mono ?_⟩
      rintro e W1 ⟨a, b, q', hrun, g1, g2, g3, rfl, hla1, hgr1⟩
      clear hx0 hx1 hw0
      have hx0 := hgr1.cell HX0'.out HGX.out.2
      have hx1 := hgr1.cell HX1'.out HGX.out.2
      have hw0 := hgr1.cell HW0'.out HGW.out.2
      have HX0 := Lib.hid hx0
      have HX1 := Lib.hid hx1
      have HW0 := Lib.hid hw0
      have HJ1 := Lib.hid (HJ.out O O _ _ _ HJJ.out (hgr1.mono fun o ho => HOO.out o (HBS.out o ho)) (Claims.refl _ _ _))
      have HP1 := Lib.hid (HPT.out.grown hgr1)
      have HL1 := Lib.hid hla1
      have HR := Lib.hid hrun
      clear hrun hla1 hgr1
      by_cases hah : a ≤ hi
      · obtain ⟨r1, r2, r3, r4, r5⟩ := stands_run (fun m => setB_iff xs m) hlt HST.out HR.out hah (by omega)
        have HS5 := Lib.hid r5
        have HS4 := Lib.hid r4
        clear r4 r5
        have hlx : gx < W1.heap.size := World.block_lt_of_cell? _ _ hx1
        have hy1 : (W1.alloc (.cells #[.int .i64 a, .int .i64 b] 49)).cell? ⟨gx, 1, none⟩ = some (.int .i64 hi) := (World.cell?_alloc_lt _ _ _ hlx).trans hx1
        have hgA : GrownL O W1 (W1.alloc (.cells #[.int .i64 a, .int .i64 b] 49)) := GrownL.of_below ((Below.refl _ _).alloc (Nat.le_refl _) _)
        have HJ2 := HJ.out O (W1.heap.size :: O) _ _ _ HJ1.out hgA (Claims.one (Nat.le_refl _) (by simp))
        obtain ⟨fn, tmps, assign, body, hy, hR⟩ := HY.out _ k ((b + 1 - lo).toNat) a b _ (by omega) r2 r3 (by omega) HS4.out HJ2
        have HGA := Lib.hid hgA
        have hd : decide (hi < a) = false := by simp; omega
        have HX1a := Lib.hid hx1
        have HX0a := Lib.hid hx0
        have HW0a := Lib.hid hw0
        clear HJ2 hgA hx1 hx0 hw0
        gi_wp2_with fail
        refine hR.mono ?_
        rintro e W3 (⟨rfl, hJ3, hk3⟩ | ⟨rfl, hJx3⟩)
        · have hb3 : W3.cell? ⟨W1.heap.size, 1, none⟩ = some (.int .i64 b) := hk3.cell (p := ⟨W1.heap.size, 1, none⟩) (by simp [go_sem]) (by simp)
          have hgx3 : ∀ (i : Nat) v, W1.cell? ⟨gx, i, none⟩ = some v → W3.cell? ⟨gx, i, none⟩ = some v := fun i v h => hk3.cell (p := ⟨gx, i, none⟩) ((World.cell?_alloc_lt _ _ _ hlx).trans h) (by simp [HOO.out gx HGX.out.1])
          have hgw3 : W3.cell? ⟨gw, 0, none⟩ = some (.slice A bs.length c) := hk3.cell (p := ⟨gw, 0, none⟩) ((World.cell?_alloc_lt _ _ _ (World.block_lt_of_cell? _ _ HW0a.out)).trans HW0a.out) (by simp [HOO.out gw HGW.out.1])
          have F3 := Lib.hid (And.intro (hgx3 0 _ HX0a.out) (And.intro (hgx3 1 _ HX1a.out) hgw3))
          have HJ3 := Lib.hid hJ3
          have HL3 := Lib.hid ((HL1.out.grown ((Below.refl W1.heap.size W1).alloc (Nat.le_refl _) (.cells #[.int .i64 a, .int .i64 b] 49))).keeps hk3 (fun o ho => List.mem_cons_of_mem _ (HOO.out o (HBS.out o ho))))
          have HP3 := Lib.hid ((HP1.out.grown (GrownL.of_below (bs := bs) ((Below.refl W1.heap.size W1).alloc (Nat.le_refl _) (.cells #[.int .i64 a, .int .i64 b] 49)))).keeps hk3 (fun g e => List.mem_cons_of_mem _ (HOO.out g (HA.out g e))))
          clear hgx3 hgw3 hJ3 hk3 hR hy1
          gi_wp2_with fail
          go_roundw
          case rel => exact ⟨W1.heap.size :: O, (b + 1 - lo).toNat, q', by congr 1; omega, by omega, HS5.out, fun o ho => List.mem_cons_of_mem _ (HOO.out o ho), HJ3.out, HL3.out, by omega, HP3.out, F3.out.1, F3.out.2.1, F3.out.2.2⟩
          case measure => show (hi + 1 - (b + 1)).toNat < (hi + 1 - (lo + k)).toNat; omega
        · have HJ3 := Lib.hid hJx3
          clear hJx3 hR hy1
          gi_wp2_with fail
          refine bodyPost_ret (results_none rfl _ _ _) rfl ?_
          exact ⟨⟨_, rfl⟩, .inr ⟨_, (b + 1 - lo).toNat, by omega, HJ3.out⟩⟩
      · have hlx : gx < W1.heap.size := World.block_lt_of_cell? _ _ hx1
        have hy1 : (W1.alloc (.cells #[.int .i64 a, .int .i64 b] 49)).cell? ⟨gx, 1, none⟩ = some (.int .i64 hi) := (World.cell?_alloc_lt _ _ _ hlx).trans hx1
        have hd : decide (hi < a) = true := by simp; omega
        have hN := stands_none (fun m => setB_iff xs m) (by omega) HR.out (by omega)
        have HN := Lib.hid hN
        have hgA : GrownL O W1 (W1.alloc (.cells #[.int .i64 a, .int .i64 b] 49)) := GrownL.of_below ((Below.refl _ _).alloc (Nat.le_refl _) _)
        have HJ2 := Lib.hid (HJ.out O O _ _ _ HJ1.out hgA (Claims.refl _ _ _))
        clear hN hgA hx1 hx0 hw0
        gi_wp2_with fail
        refine ⟨fun _ h => (by cases h), ?_⟩
        gi_wp2_with fail
        refine bodyPost_ret (results_none rfl _ _ _) rfl ?_
        have hj := HJ2.out
        rw [HN.out] at hj
        exact ⟨⟨_, rfl⟩, .inl ⟨O, HOO.out, hj, q', HL1.out.grown ((Below.refl W1.heap.size W1).alloc (Nat.le_refl _) _), by omega, HP1.out.grown (GrownL.of_below ((Below.refl W1.heap.size W1).alloc (Nat.le_refl _) _))⟩⟩
    · have hN : (hi + 1 - lo).toNat = k := by omega
      have HN := Lib.hid hN
      clear hN
      gi_wp2_with fail
      go_end0
      exact ⟨⟨_, rfl⟩, .inl ⟨O, HOO.out, by rw [HN.out]; exact HJJ.out, q, HLA.out, by omega, HPT.out⟩⟩

/-- The runs of a sweep that goes on, as an iterator: it is handed the sweep's blocks. -/
theorem within_seq (bs : List Nat) (xs : List Lot) (A : Option Addr) (c gx gw : Nat) (P lo hi : Int) (O0 : List Nat) (w0 : World)
    (hok : ∀ x ∈ xs, x.ok) (hbs : ∀ b ∈ bs, b ∈ O0) (hgx : gx ∈ O0) (hgw : gw ∈ O0) (hgxn : gx ∉ bs) (hgwn : gw ∉ bs) (hA : ∀ g, A = some ⟨g, 0, none⟩ → g ∈ O0)
    (h : Lanes bs xs P w0) (hp : Ptrs bs A w0) (h1 : P ≤ lo) (h2 : 0 ≤ lo) (h3 : lo ≤ hi + 1) (h4 : hi ≤ 1048576) (hlen : bs.length ≤ 100)
    (hcx0 : w0.cell? ⟨gx, 0, none⟩ = some (.int .i64 lo)) (hcx1 : w0.cell? ⟨gx, 1, none⟩ = some (.int .i64 hi)) (hcw : w0.cell? ⟨gw, 0, none⟩ = some (.slice A bs.length c)) :
    SeqK Tryd.prog 138 #[.pointer (some ⟨gx, 0, none⟩), .pointer (some ⟨gw, 0, none⟩)] (fun x : S2 => #[sv2 x.1 x.2]) (AllRuns xs lo hi) (SomeRuns xs lo hi) w0 O0 (fun _ => True) (LanesTo bs xs A hi) := by
  intro l J Jx W hW _ h0 hJ hJx hY
  have cx : ∀ (b i : Nat) v, w0.cell? ⟨b, i, none⟩ = some v → W.cell? ⟨b, i, none⟩ = some v := fun b i v e => (hW.cell (p := ⟨b, i, none⟩) (World.block_lt_of_cell? _ _ e)).trans e
  refine (within1K_any l bs xs A c gx gw P lo hi O0 J Jx W hok hbs hgx hgw hgxn hgwn hA hJ (roundsOf fun O pre x W1 hj hs => yieldAt_weaker (hY O pre x W1 hj hs) ?_) (h.grown hW) (hp.grown (GrownL.of_below hW)) h1 h2 h3 h4 hlen (cx _ _ _ hcx0) (cx _ _ _ hcx1) (cx _ _ _ hcw) h0).mono ?_
  · rintro e W' ⟨⟨he, h1⟩ | ⟨he, h1⟩, hk⟩
    · exact .inl ⟨he, h1, hk⟩
    · exact .inr ⟨he, h1⟩
  · rintro e W' ⟨hv, ⟨O, _, h1, h2⟩ | ⟨O, k, hk, h1⟩⟩
    · exact ⟨hv, .inl ⟨O, _, rfl, h1, h2⟩⟩
    · exact ⟨hv, .inr ⟨O, _, ⟨k, hk, rfl⟩, h1⟩⟩
end Go.Proofs.YtlhgpeelenelbaaDoor

/- Contracts of both and its closure: what two sets have in common of a span, as an iterator. -/
namespace Go.Proofs.YtlhgpeelenelbaaDoor
open Go.RowKit
attribute [local go_sem] Oper.semAt_some

set_option maxHeartbeats 400000 in
theorem both_any (A : Option Addr) (n c : Nat) (A' : Option Addr) (n' c' : Nat) (B : Option Addr) (m d : Nat) (B' : Option Addr) (m' d' : Nat) (lo hi : Int) (w : World) :
    Calls Tryd.prog 116 #[.agg #[.slice A n c, .slice A' n' c'], .agg #[.slice B m d, .slice B' m' d'], sv2 lo hi] w fun e w' => e = .returned (.func (.func 137) #[] #[.pointer (some ⟨w.heap.size + 1, 0, none⟩), .pointer (some ⟨w.heap.size, 0, none⟩), .pointer (some ⟨w.heap.size + 1 + 1, 0, none⟩)]) ∧
      w' = ((w.alloc (.cells #[.slice A n c, .slice A' n' c'] 25)).alloc (.cells #[.slice B m d, .slice B' m' d'] 25)).alloc (.cells #[.int .i64 lo, .int .i64 hi] 49) := by
  go_enter Tryd.func116, Tryd.ntmps116
  go_wp2_with fail
  go_ret
  exact ⟨rfl, rfl⟩
theorem enters_both1 (args : Array Value) (w : World) : (callFunc 137 args).run Tryd.prog w = .ok (.enter 137 args) w :=
  enters_of Tryd.func137 (by kernel_rfl) rfl args w
theorem enters_within1 (args : Array Value) (w : World) : (callFunc 138 args).run Tryd.prog w = .ok (.enter 138 args) w :=
  enters_of Tryd.func138 (by kernel_rfl) rfl args w

def SomeBoth (H H' : Int → Bool) (lo hi : Int) (p : List S2) : Prop := ∃ k : Nat, lo + k ≤ hi + 1 ∧ p = spn (andH H H') lo k
def AllBoth (H H' : Int → Bool) (lo hi : Int) (p : List S2) : Prop := p = spn (andH H H') lo (hi + 1 - lo).toNat
/-- The blocks from n on, up to m. -/
def BothB (n m : Nat) : List Nat := List.range' n (m - n)
theorem BothB.mem {n m b : Nat} (h1 : n ≤ b) (h2 : b < m) : b ∈ BothB n m := List.mem_range'_1.2 ⟨h1, by omega⟩
theorem BothB.bd {n m b : Nat} (h : b ∈ BothB n m) : n ≤ b ∧ b < m := by
  obtain ⟨h1, h2⟩ := List.mem_range'_1.1 h
  exact ⟨h1, by omega⟩

theorem Ptrs.away {bs L : List Nat} {A : Option Addr} {w w' : World} (h : Ptrs bs A w) (hg : GrownL L w w') (hn : ∀ g, A = some ⟨g, 0, none⟩ → g ∉ L) : Ptrs bs A w' := fun hp => by
  obtain ⟨g, e, hm, hc⟩ := h hp
  exact ⟨g, e, hm, fun k b hb => hg.cell (hc k b hb) (hn g e)⟩
theorem Lanes.away {bs L : List Nat} {xs : List Lot} {q : Int} {w w' : World} (h : Lanes bs xs q w) (hg : GrownL L w w') (hn : ∀ b ∈ bs, b ∉ L) : Lanes bs xs q w' :=
  ⟨h.1, h.2.1, fun k b x h1 h2 => by
    obtain ⟨lo, hi, l1, l2⟩ := h.2.2 k b x h1 h2
    exact ⟨lo, hi, l1.same (hg.block b l1.lt (hn b (List.mem_of_getElem? h1))), l2⟩⟩

/-- What both keeps between two runs of the first set. -/
def BothI (n g m l : Nat) (bs : List Nat) (xs : List Lot) (A : Option Addr) (c : Nat) (J : List Nat → List S2 → World → Prop) (O : List Nat) (pre : List S2) (V : World) : Prop :=
  J (O ++ BothB n m) (bothOf (setB xs) pre) V ∧ (∀ o ∈ O, o < V.heap.size) ∧ V.cell? ⟨n, 0, none⟩ = some (.func (.yield l) #[] #[]) ∧ V.cell? ⟨g, 0, none⟩ = some (.slice A bs.length c) ∧ Ptrs bs A V ∧ ∃ q, Lanes bs xs q V ∧ (q ≤ 0 ∨ ∃ y ∈ pre, q ≤ y.2 + 1)
def BothX (n m : Nat) (H H' : Int → Bool) (lo hi : Int) (Jx : List Nat → List S2 → World → Prop) (c : Code) (O : List Nat) (_ : List S2) (V : World) : Prop :=
  c = .ret ∧ ∃ Oy p, (∀ b ∈ O ++ BothB n m, b ∈ Oy) ∧ SomeBoth H H' lo hi p ∧ Jx Oy p V
/-- And between two runs of the second one, within one of the first. -/
def BothIn (Oc Kp : List Nat) (V2 : World) (p0 : List S2) (J : List Nat → List S2 → World → Prop) (O : List Nat) (pre : List S2) (V : World) : Prop :=
  J (O ++ Oc) (p0 ++ pre) V ∧ Keeps Kp V2 V
def BothInX (Oc Kp : List Nat) (V2 : World) (p0 : List S2) (Jx : List Nat → List S2 → World → Prop) (c : Code) (O : List Nat) (pre : List S2) (V : World) : Prop :=
  c = .ret ∧ (∃ Oy, (∀ b ∈ O ++ Oc, b ∈ Oy) ∧ Jx Oy (p0 ++ pre) V) ∧ Keeps Kp V2 V

set_option maxHeartbeats 8000000 in
set_option maxRecDepth 1000000 in
theorem both_seq (ga gb gx : Nat) (A : Option Addr) (m c : Nat) (A' : Option Addr) (m' c' : Nat) (B : Option Addr) (k d : Nat) (B' : Option Addr) (k' d' : Nat) (ts : List T3) (ss : List S2) (ts2 : List T3) (ss2 : List S2) (lo hi : Int) (w0 : World)
    (hok : AllOk ts ss) (k1 : ts.length ≤ 24) (k2 : ss.length ≤ 40) (hrm : RM w0.heap.size (.agg #[.slice A m c, .slice A' m' c']) ts ss w0)
    (hok' : AllOk ts2 ss2) (l1 : ts2.length ≤ 24) (l2 : ss2.length ≤ 40) (hrm' : RM w0.heap.size (.agg #[.slice B k d, .slice B' k' d']) ts2 ss2 w0)
    (ha0 : w0.cell? ⟨ga, 0, none⟩ = some (.slice A m c)) (ha1 : w0.cell? ⟨ga, 1, none⟩ = some (.slice A' m' c'))
    (hb0 : w0.cell? ⟨gb, 0, none⟩ = some (.slice B k d)) (hb1 : w0.cell? ⟨gb, 1, none⟩ = some (.slice B' k' d'))
    (hx0 : w0.cell? ⟨gx, 0, none⟩ = some (.int .i64 lo)) (hx1 : w0.cell? ⟨gx, 1, none⟩ = some (.int .i64 hi))
    (h2 : 0 ≤ lo) (h3 : lo ≤ hi + 1) (h4 : hi ≤ 1048576) :
    SeqK Tryd.prog 137 #[.pointer (some ⟨gb, 0, none⟩), .pointer (some ⟨ga, 0, none⟩), .pointer (some ⟨gx, 0, none⟩)] (fun x : S2 => #[sv2 x.1 x.2]) (AllBoth (setB (lotsOf ts ss)) (setB (lotsOf ts2 ss2)) lo hi) (SomeBoth (setB (lotsOf ts ss)) (setB (lotsOf ts2 ss2)) lo hi) w0 [] (fun _ => True) (fun _ => True) := by
  intro l J Jx W hW _ h0 hJ hJx hY
  have cx : ∀ (b i : Nat) v, w0.cell? ⟨b, i, none⟩ = some v → W.cell? ⟨b, i, none⟩ = some v := fun b i v e => (hW.cell (p := ⟨b, i, none⟩) (World.block_lt_of_cell? _ _ e)).trans e
  have y0 := cx _ _ _ ha0
  have y1 := cx _ _ _ ha1
  have u0 := cx _ _ _ hb0
  have u1 := cx _ _ _ hb1
  have z0 := cx _ _ _ hx0
  have z1 := cx _ _ _ hx1
  have hla : ga < W.heap.size := World.block_lt_of_cell? _ _ y0
  have hlb : gb < W.heap.size := World.block_lt_of_cell? _ _ u0
  have hlx : gx < W.heap.size := World.block_lt_of_cell? _ _ z0
  have HRM := Lib.hid fun (W' : World) (hb : Below W.heap.size W W') => hrm.up (Nat.le_trans hW.size hb.size) (hW.trans (hb.mono hW.size))
  have HRM' := Lib.hid fun (W' : World) (hb : Below W.heap.size W W') => hrm'.up (Nat.le_trans hW.size hb.size) (hW.trans (hb.mono hW.size))
  have HOK := Lib.hid hok
  have HOK' := Lib.hid (lotsOf_ok hok')
  have HLEN : Hid ((lotsOf ts2 ss2).length ≤ 64) := Lib.hid (by simp [lotsOf]; omega)
  have H0 := Lib.hid h0
  have HJ := Lib.hid hJ
  have HJx := Lib.hid hJx
  have HY := Lib.hid hY
  have HME := Lib.hid fun (k : Nat) => both_eq (setB (lotsOf ts ss)) (setB (lotsOf ts2 ss2)) lo k
  have C := Lib.hid fun (W' : World) (hb : Below W.heap.size W W') => sweepOf_any (.agg #[.slice B k d, .slice B' k' d']) ts2 ss2 W' (HRM'.out W' hb) l1 l2
  have u0' : (W.alloc (.cells #[.func (.yield l) #[] #[]] 50)).cell? ⟨gb, 0, none⟩ = some (.slice B k d) := (World.cell?_alloc_lt _ _ _ hlb).trans u0
  have u1' : (W.alloc (.cells #[.func (.yield l) #[] #[]] 50)).cell? ⟨gb, 1, none⟩ = some (.slice B' k' d') := (World.cell?_alloc_lt _ _ _ hlb).trans u1
  have CXW := Lib.hid (And.intro y0 (And.intro y1 (And.intro z0 z1)))
  clear hok hok' h0 hJ hJx hY hrm hrm' ha0 ha1 hb0 hb1 hx0 hx1 HRM' cx y0 y1 z0 z1 u0 u1
  refine (callsIn_wide (n := 3)).1 ?_
  refine callsIn_of_wp_marks Tryd.func137 rfl trivial ?_ rfl
  simp only [Tryd.ntmps137, List.size_toArray, List.length_cons, List.length_nil, Nat.reduceAdd, Nat.reduceSub, Array.replicate_succ, Array.replicate_zero, List.push_toArray, List.append_toArray, List.nil_append, List.cons_append]
  gi_wp2_with fail
  have hbA : Below W.heap.size W (W.alloc (.cells #[.func (.yield l) #[] #[]] 50)) := (Below.refl _ _).alloc (Nat.le_refl _) _
  refine ⟨trivial, (callsIn_wide.2 (C.out _ hbA)).mono ?_⟩
  rintro e w1 ⟨bs, A1, c1, rfl, hfr, hpt, hb1, hg1⟩
  have hs1 : W.heap.size + 1 ≤ w1.heap.size := by have := hb1.size; simpa using this
  have hbw1 : Below W.heap.size W w1 := hbA.trans (hb1.mono (by simp))
  have cellN : w1.cell? ⟨W.heap.size, 0, none⟩ = some (.func (.yield l) #[] #[]) := (hb1.cell (p := ⟨W.heap.size, 0, none⟩) (by simp)).trans (by simp [go_sem])
  have lift1 : ∀ (b i : Nat) v, W.cell? ⟨b, i, none⟩ = some v → (w1.alloc (.cells #[.slice A1 bs.length c1] 118)).cell? ⟨b, i, none⟩ = some v := fun b i v e => by
    have hlt : b < W.heap.size := World.block_lt_of_cell? _ _ e
    exact (World.cell?_alloc_lt _ _ _ (by show b < w1.heap.size; omega)).trans ((hbw1.cell (p := ⟨b, i, none⟩) hlt).trans e)
  obtain ⟨y0, y1, z0, z1⟩ := CXW.out
  have y0' := lift1 _ _ _ y0
  have y1' := lift1 _ _ _ y1
  have z0' := lift1 _ _ _ z0
  have z1' := lift1 _ _ _ z1
  have HF := Lib.hid (And.intro hfr (And.intro hpt hg1))
  have HBW := Lib.hid hbw1
  have HCN := Lib.hid cellN
  clear lift1 y0 y1 z0 z1 u0' u1' hfr hpt hg1 hb1 hbA hbw1 cellN
  gi_wp2_with fail
  refine ⟨trivial, (callsIn_wide.2 (runs_any A m c A' m' c' lo hi _)).mono ?_⟩
  rintro e w2 ⟨rfl, rfl⟩
  clear y0' y1' z0' z1'
  gi_wp2_with fail
  obtain ⟨hfr, hpt, hg1⟩ := HF.out
  have hb3 : Below w1.heap.size w1 (((w1.alloc (.cells #[.slice A1 bs.length c1] 118)).alloc (.cells #[.slice A m c, .slice A' m' c'] 25)).alloc (.cells #[.int .i64 lo, .int .i64 hi] 49)) :=
    (((Below.refl _ _).alloc (Nat.le_refl _) _).alloc (by simp) _).alloc (by simp <;> omega) _
  obtain ⟨W0, hW0⟩ : ∃ W0, (((w1.alloc (.cells #[.slice A1 bs.length c1] 118)).alloc (.cells #[.slice A m c, .slice A' m' c'] 25)).alloc (.cells #[.int .i64 lo, .int .i64 hi] 49)) = W0 := ⟨_, rfl⟩
  have hz0 : W0.heap.size = w1.heap.size + 3 := by rw [← hW0]; simp
  have a1 : W0.cell? ⟨w1.heap.size, 0, none⟩ = some (.slice A1 bs.length c1) := by rw [← hW0]; simp [go_sem]
  have a2 : W0.cell? ⟨w1.heap.size + 1, 0, none⟩ = some (.slice A m c) := by rw [← hW0]; simp [go_sem]
  have a3 : W0.cell? ⟨w1.heap.size + 1, 1, none⟩ = some (.slice A' m' c') := by rw [← hW0]; simp [go_sem]
  have a4 : W0.cell? ⟨w1.heap.size + 1 + 1, 0, none⟩ = some (.int .i64 lo) := by rw [← hW0]; simp [go_sem]
  have a5 : W0.cell? ⟨w1.heap.size + 1 + 1, 1, none⟩ = some (.int .i64 hi) := by rw [← hW0]; simp [go_sem]
  rw [hW0] at hb3 ⊢
  have a0 : W0.cell? ⟨W.heap.size, 0, none⟩ = some (.func (.yield l) #[] #[]) := (hb3.cell (p := ⟨W.heap.size, 0, none⟩) (by show W.heap.size < w1.heap.size; omega)).trans HCN.out
  have hbs : ∀ b ∈ bs, W.heap.size < b ∧ b < w1.heap.size := fun b hb => by have := hfr.2.2.1 b hb; simp at this; omega
  have hgs : ∀ g, A1 = some ⟨g, 0, none⟩ → W.heap.size < g ∧ g < w1.heap.size := fun g e => by have := hg1 g e; simp at this; omega
  obtain ⟨gl, hgl1, hgl2⟩ : ∃ gl : List Nat, (∀ g, A1 = some ⟨g, 0, none⟩ → g ∈ gl) ∧ ∀ g ∈ gl, W.heap.size < g ∧ g < w1.heap.size := by
    by_cases h : ∃ g, A1 = some ⟨g, 0, none⟩
    · obtain ⟨g, e⟩ := h
      exact ⟨[g], (fun g' e' => by rw [e] at e'; simp at e'; simp [e']), (fun g' h' => by simp at h'; subst h'; exact hgs g' e)⟩
    · exact ⟨[], (fun g e => absurd ⟨g, e⟩ h), (fun g h' => by cases h')⟩
  have hlen : bs.length ≤ 100 := by have := hfr.1; have := HLEN.out; omega
  have HLN := Lib.hid (hfr.lanes.grown hb3)
  have HPT := Lib.hid (hpt.grown (GrownL.of_below (bs := bs) hb3))
  have hbW0 : Below W.heap.size W W0 := HBW.out.trans (hb3.mono (by omega))
  -- book-keeping: what is not touched between two runs
  have notin : ∀ O b, From [] (W0.heap.size + 2) O → b < W0.heap.size → b ∉ W0.heap.size :: (W0.heap.size + 1) :: O := fun O b hO hk hm => by
    rcases List.mem_cons.1 hm with e | hm
    · omega
    rcases List.mem_cons.1 hm with e | hm
    · omega
    · rcases hO _ hm with h | h
      · cases h
      · omega
  have inB : ∀ O b, b ∈ W0.heap.size :: (W0.heap.size + 1) :: O → b ∈ O ++ BothB W.heap.size (W0.heap.size + 2) := fun O b hb => by
    rcases List.mem_cons.1 hb with e | hb
    · exact List.mem_append.2 (.inr (BothB.mem (by omega) (by omega)))
    rcases List.mem_cons.1 hb with e | hb
    · exact List.mem_append.2 (.inr (BothB.mem (by omega) (by omega)))
    · exact List.mem_append.2 (.inl hb)
  have HN := Lib.hid notin
  have HB := Lib.hid inB
  have HBS := Lib.hid hbs
  have HGS := Lib.hid hgs
  have HGL := Lib.hid (And.intro hgl1 hgl2)
  have HA := Lib.hid (And.intro a0 a1)
  have HZ := Lib.hid (And.intro hs1 (And.intro (Nat.le_of_eq hz0) (Nat.le_of_eq hz0.symm)))
  have HBW0 := Lib.hid hbW0
  have HSQ := Lib.hid ((runs_seq (w1.heap.size + 1) (w1.heap.size + 1 + 1) A m c A' m' c' ts ss lo hi W0 HOK.out k1 k2 (HRM.out W0 hbW0) a2 a3 a4 a5 h2 h3 h4).toK (fun _ => True))
  clear notin inB a0 a1 a2 a3 a4 a5 hb3 hW0 hz0 hs1 hfr hpt hg1 hbs hgs hgl1 hgl2 hbW0 HF HBW HCN HRM CXW C
  refine wpIn_rangeK (gf := 124) (lb := #[.pointer (some ⟨w1.heap.size + 1, 0, none⟩), .pointer (some ⟨w1.heap.size + 1 + 1, 0, none⟩)]) rfl enters_runs1 HSQ.out (Below.refl _ _) (fun o h => by cases h) (fun _ => rfl)
    (BothI W.heap.size w1.heap.size (W0.heap.size + 2) l bs (lotsOf ts2 ss2) A1 c1 J) (BothX W.heap.size (W0.heap.size + 2) (setB (lotsOf ts ss)) (setB (lotsOf ts2 ss2)) lo hi Jx) (fun _ _ _ _ => trivial) ?h0 ?hI ?hIx ?round ?done ?stop
  case h0 =>
    intro W' hb hsz
    obtain ⟨a0, a1⟩ := HA.out
    obtain ⟨hs1, hz, hz'⟩ := HZ.out
    refine ⟨?_, (fun o ho => by cases ho), (hb.cell (p := ⟨W.heap.size, 0, none⟩) (by show W.heap.size < _; omega)).trans a0, (hb.cell (p := ⟨w1.heap.size, 0, none⟩) (by show w1.heap.size < _; omega)).trans a1, HPT.out.grown (GrownL.of_below hb), 0, HLN.out.grown hb, .inl (Int.le_refl _)⟩
    refine HJ.out [] _ [] W W' H0.out (GrownL.of_below (HBW0.out.trans (hb.mono (by omega)))) fun o ho => .inr ?_
    have := BothB.bd (by simpa using ho)
    omega
  case hI =>
    rintro O O' s W1 W2 hO ⟨hj, hlt, c0, c5, hp, q, hl, hq⟩ hg hcl
    obtain ⟨hs1, hz, hz'⟩ := HZ.out
    refine ⟨HJ.out _ _ _ _ _ hj (hg.mono (HB.out O)) (claims_app hcl), fun o ho => ?_, hg.cell c0 (HN.out O _ hO (by show W.heap.size < _; omega)), hg.cell c5 (HN.out O _ hO (by show w1.heap.size < _; omega)), hp.away hg (fun g e => HN.out O g hO (by have := HGS.out g e; omega)), q, hl.away hg (fun b hb => HN.out O b hO (by have := HBS.out b hb; omega)), hq⟩
    rcases hcl o ho with h | h
    · have := hlt o h
      have := hg.size
      omega
    · exact h.2
  case hIx =>
    rintro c O s W1 W2 hO ⟨rfl, Oy, p, hy, hp, hj⟩ hg
    exact ⟨rfl, Oy, p, hy, hp, HJx.out _ _ _ _ hj (hg.mono fun b hb => hy b (HB.out O b hb))⟩
  case round =>
    rintro O pre ⟨x1, x2⟩ V hO ⟨hj, hlt, c0, c5, hp, q, hl, hq⟩ hsz ⟨kk, hk, hek⟩
    obtain ⟨hs1, hz, hz'⟩ := HZ.out
    have hme := (HME.out kk).2 pre (x1, x2) hek
    obtain ⟨p1, p2, p3, p4, p5, p6⟩ := spn_prefix hek
    simp only at hme p1 p2 p3 p4 p5 p6
    have hqx : q ≤ x1 := by
      rcases hq with hq | ⟨y, hy, hq⟩
      · omega
      · rw [p1] at hy
        have h5 := (spn_in _ _ _ y hy).2.2.1
        omega
    have HME2 := Lib.hid hme
    have HJV := Lib.hid hj
    have HO := Lib.hid (And.intro hO hlt)
    have HLV := Lib.hid (And.intro hp hl)
    clear hme hj hO hlt hp hl hq hek p1 p2 p6
    gi_wp2_with fail
    refine ⟨Keeps.of_below ((Below.refl _ _).alloc (Nat.le_refl _) _), fun V2 hg2 hL2 => ?_⟩
    have hVA : GrownL [W0.heap.size + 1] V V2 := (GrownL.of_below ((Below.refl _ _).alloc (Nat.le_refl _) _)).trans hg2
    have n0 : W.heap.size ∉ [W0.heap.size + 1] := by simp <;> omega
    have n1 : w1.heap.size ∉ [W0.heap.size + 1] := by simp <;> omega
    have n2 : V.heap.size ∉ [W0.heap.size + 1] := by simp <;> omega
    have b0 : V2.cell? ⟨W.heap.size, 0, none⟩ = some (.func (.yield l) #[] #[]) := hVA.cell c0 n0
    have b1 : V2.cell? ⟨w1.heap.size, 0, none⟩ = some (.slice A1 bs.length c1) := hVA.cell c5 n1
    have d0 : V2.cell? ⟨V.heap.size, 0, none⟩ = some (.int .i64 x1) := hg2.cell (p := ⟨V.heap.size, 0, none⟩) (by simp [go_sem]) n2
    have d1 : V2.cell? ⟨V.heap.size, 1, none⟩ = some (.int .i64 x2) := hg2.cell (p := ⟨V.heap.size, 1, none⟩) (by simp [go_sem]) n2
    have hs2 : V.heap.size + 1 ≤ V2.heap.size := by have := hg2.size; simpa using this
    have HLV2 := Lib.hid (And.intro (HLV.out.1.away hVA (fun g e => by have := HGS.out g e; simp; omega)) (HLV.out.2.away hVA (fun b hb => by have := HBS.out b hb; simp; omega)))
    have HVA := Lib.hid hVA
    have HB0 := Lib.hid b0
    have HB1 := Lib.hid b1
    obtain ⟨r0, hr0⟩ := hL2
    have HR0 := Lib.hid hr0
    clear hVA hg2 c0 c5 b0 hr0 HLV n0 n1 n2
    gi_wp2_with fail
    refine ⟨trivial, (CallsIn.inRound _ (callsIn_wide.2 (within_any A1 bs.length c1 x1 x2 _))).mono ?_⟩
    rintro e w3 ⟨rfl, rfl⟩
    clear b1 d0 d1
    gi_wp2_with fail
    have hb5 := below_two V2 (.cells #[.slice A1 bs.length c1] 118) (.cells #[.int .i64 x1, .int .i64 x2] 49)
    obtain ⟨Vn, hVn⟩ : ∃ Vn, ((V2.alloc (.cells #[.slice A1 bs.length c1] 118)).alloc (.cells #[.int .i64 x1, .int .i64 x2] 49)) = Vn := ⟨_, rfl⟩
    have hzn : Vn.heap.size ≤ V2.heap.size + 2 := by rw [← hVn]; simp
    have hzn' : V2.heap.size + 2 ≤ Vn.heap.size := by rw [← hVn]; simp
    have e0 : Vn.cell? ⟨V2.heap.size, 0, none⟩ = some (.slice A1 bs.length c1) := by rw [← hVn]; simp [go_sem]
    have e1 : Vn.cell? ⟨V2.heap.size + 1, 0, none⟩ = some (.int .i64 x1) := by rw [← hVn]; simp [go_sem]
    have e2 : Vn.cell? ⟨V2.heap.size + 1, 1, none⟩ = some (.int .i64 x2) := by rw [← hVn]; simp [go_sem]
    rw [hVn] at hb5 ⊢
    have hrn : Vn.heap[W0.heap.size + 1]? = some (.loop r0) := (hb5.block _ (Array.getElem?_eq_some_iff.1 HR0.out).1).trans HR0.out
    obtain ⟨Oc, hOc⟩ : ∃ Oc, Vn.heap.size :: V.heap.size :: (O ++ BothB W.heap.size (W0.heap.size + 2)) = Oc := ⟨_, rfl⟩
    obtain ⟨Kp, hKp⟩ : ∃ Kp, W.heap.size :: w1.heap.size :: W0.heap.size :: (W0.heap.size + 1) :: O = Kp := ⟨_, rfl⟩
    obtain ⟨O0, hO0⟩ : ∃ O0, (V2.heap.size + 1) :: V2.heap.size :: (gl ++ bs) = O0 := ⟨_, rfl⟩
    have hO0b : ∀ o ∈ O0, (W.heap.size < o ∧ o < w1.heap.size) ∨ o = V2.heap.size ∨ o = V2.heap.size + 1 := fun o ho => by
      rw [← hO0] at ho
      rcases List.mem_cons.1 ho with e | ho
      · exact .inr (.inr e)
      rcases List.mem_cons.1 ho with e | ho
      · exact .inr (.inl e)
      rcases List.mem_append.1 ho with ho | ho
      · exact .inl (HGL.out.2 o ho)
      · exact .inl (HBS.out o ho)
    have hKb : ∀ o ∈ Kp, o = W.heap.size ∨ (w1.heap.size ≤ o ∧ o < V.heap.size) := fun o ho => by
      rw [← hKp] at ho
      rcases List.mem_cons.1 ho with e | ho
      · exact .inl e
      rcases List.mem_cons.1 ho with e | ho
      · exact .inr (by omega)
      rcases List.mem_cons.1 ho with e | ho
      · exact .inr (by omega)
      rcases List.mem_cons.1 ho with e | ho
      · exact .inr (by omega)
      · have h1 := HO.out.2 o ho
        rcases HO.out.1 o ho with h | h
        · cases h
        · exact .inr (by omega)
    have hKO : ∀ o ∈ Kp, o ∈ Oc := fun o ho => by
      rw [← hKp] at ho
      rw [← hOc]
      refine List.mem_cons_of_mem _ (List.mem_cons_of_mem _ (List.mem_append.2 ?_))
      rcases List.mem_cons.1 ho with e | ho
      · exact .inr (BothB.mem (by omega) (by omega))
      rcases List.mem_cons.1 ho with e | ho
      · exact .inr (BothB.mem (by omega) (by omega))
      rcases List.mem_cons.1 ho with e | ho
      · exact .inr (BothB.mem (by omega) (by omega))
      rcases List.mem_cons.1 ho with e | ho
      · exact .inr (BothB.mem (by omega) (by omega))
      · exact .inl ho
    have hOn : Vn.heap.size ∈ Oc := by rw [← hOc]; exact List.mem_cons_self ..
    have hOB : ∀ o ∈ O ++ BothB W.heap.size (W0.heap.size + 2), o ∈ Oc := fun o ho => by rw [← hOc]; exact List.mem_cons_of_mem _ (List.mem_cons_of_mem _ ho)
    have hKsub : ∀ o ∈ [W0.heap.size, W0.heap.size + 1] ++ O, o ∈ Kp := fun o ho => by rw [← hKp]; exact List.mem_cons_of_mem _ (List.mem_cons_of_mem _ (by simpa using ho))
    have hKn : W.heap.size ∈ Kp ∧ w1.heap.size ∈ Kp := by rw [← hKp]; simp
    -- what is kept lies apart from what the inner iterator turns
    have hap : ∀ O', From O0 (Vn.heap.size + 1) O' → ∀ o ∈ Kp, o ∉ Vn.heap.size :: O' := fun O' hO' o ho hm => by
      have h1 := hKb o ho
      rcases List.mem_cons.1 hm with e | hm
      · omega
      · rcases hO' o hm with h | h
        · have := hO0b o h
          omega
        · omega
    have HSI := Lib.hid (within_seq bs (lotsOf ts2 ss2) A1 c1 (V2.heap.size + 1) V2.heap.size q x1 x2 O0 Vn HOK'.out (fun b hb => by rw [← hO0]; simp [hb]) (by rw [← hO0]; simp) (by rw [← hO0]; simp) (fun hm => by have := HBS.out _ hm; omega) (fun hm => by have := HBS.out _ hm; omega) (fun g e => by rw [← hO0]; simp [HGL.out.1 g e]) (HLV2.out.2.grown hb5) (HLV2.out.1.grown (GrownL.of_below hb5)) hqx (by omega) (by omega) (by omega) hlen e1 e2 e0)
    have HOB0 := Lib.hid hO0b
    have HKO := Lib.hid hKO
    have HKS := Lib.hid (And.intro hKsub hKn)
    have HAP := Lib.hid hap
    have HOcn := Lib.hid (And.intro hOn hOB)
    have HB5 := Lib.hid hb5
    have hO0lt : ∀ o ∈ O0, o < Vn.heap.size := fun o ho => by have := hO0b o ho; omega
    have HCL : Hid (∀ W' : World, Vn.heap.size + 1 ≤ W'.heap.size → Claims (O ++ BothB W.heap.size (W0.heap.size + 2)) (O0 ++ Oc) V W') := Lib.hid fun W' hw o ho => by
      rcases List.mem_append.1 ho with ho | ho
      · rcases hO0b o ho with h | h | h
        · exact .inl (List.mem_append.2 (.inr (BothB.mem (by omega) (by omega))))
        · exact .inr (by omega)
        · exact .inr (by omega)
      · rw [← hOc] at ho
        rcases List.mem_cons.1 ho with e | ho
        · exact .inr (by omega)
        rcases List.mem_cons.1 ho with e | ho
        · exact .inr (by omega)
        · exact .inl ho
    clear hO0b hKb hKO hap hOn hOB hKsub hKn hOc hKp hO0 hb5 e0 e1 e2 hVn
    refine wpIn_rangeKN (l0 := W0.heap.size + 1) (r0 := r0) (gf := 138) (lb := #[.pointer (some ⟨V2.heap.size + 1, 0, none⟩), .pointer (some ⟨V2.heap.size, 0, none⟩)]) hrn rfl enters_within1 HSI.out (Below.refl _ _) hO0lt (fun _ => rfl)
      (BothIn Oc Kp V2 (bothOf (setB (lotsOf ts2 ss2)) pre) J) (BothInX Oc Kp V2 (bothOf (setB (lotsOf ts2 ss2)) pre) Jx) (fun _ _ _ _ => trivial) ?j0 ?jI ?jIx ?jround ?jdone ?jstop
    case j0 =>
      intro W' hb hsz'
      refine ⟨?_, Keeps.of_below (HB5.out.trans (hb.mono (by omega)))⟩
      rw [List.append_nil]
      exact HJ.out _ _ _ V W' HJV.out ((HVA.out.mono fun b hb => HB.out O b (by simp at hb; simp [hb])).trans (GrownL.of_below (HB5.out.trans (hb.mono (by omega))))) (HCL.out W' hsz')
    case jI =>
      rintro O1 O2 s W1 W2 hO1 ⟨hj, hk⟩ hg hcl
      exact ⟨HJ.out _ _ _ _ _ hj (hg.mono fun b hb => by
        rcases List.mem_cons.1 hb with e | hb
        · exact List.mem_append.2 (.inr (e ▸ HOcn.out.1))
        · exact List.mem_append.2 (.inl hb)) (claims_app hcl), hk.trans (Keeps.of_grown hg (HAP.out O1 hO1))⟩
    case jIx =>
      rintro c O1 s W1 W2 hO1 ⟨rfl, ⟨Oy, hy, hj⟩, hk⟩ hg
      exact ⟨rfl, ⟨Oy, hy, HJx.out _ _ _ _ hj (hg.mono fun b hb => by
        rcases List.mem_cons.1 hb with e | hb
        · exact hy b (List.mem_append.2 (.inr (e ▸ HOcn.out.1)))
        · exact hy b (List.mem_append.2 (.inl hb)))⟩, hk.trans (Keeps.of_grown hg (HAP.out O1 hO1))⟩
    case jround =>
      rintro O1 pre1 ⟨x3, x4⟩ V3 hO1 ⟨hj, hk⟩ hsz3 ⟨jj, hjj, hej⟩
      have HJ3 := Lib.hid hj
      have HK3 := Lib.hid hk
      have hcn := hk.cell HB0.out HKS.out.2.1
      have hEJ := Lib.hid hej
      clear hj hk hej
      gi_wp2_with fail
      refine ⟨Keeps.of_below ((Below.refl _ _).alloc (Nat.le_refl _) _), fun V4 hg4 _ => ?_⟩
      have hV34 : GrownL [Vn.heap.size] V3 V4 := (GrownL.of_below ((Below.refl _ _).alloc (Nat.le_refl _) _)).trans hg4
      have f0 : V4.cell? ⟨W.heap.size, 0, none⟩ = some (.func (.yield l) #[] #[]) := hV34.cell hcn (by simp <;> omega)
      have f1 : V4.cell? ⟨V3.heap.size, 0, none⟩ = some (.int .i64 x3) := hg4.cell (p := ⟨V3.heap.size, 0, none⟩) (by simp [go_sem]) (by simp <;> omega)
      have f2 : V4.cell? ⟨V3.heap.size, 1, none⟩ = some (.int .i64 x4) := hg4.cell (p := ⟨V3.heap.size, 1, none⟩) (by simp [go_sem]) (by simp <;> omega)
      have hs4 : V3.heap.size + 1 ≤ V4.heap.size := by have := hg4.size; simpa using this
      have hJ4 := HJ.out _ (V3.heap.size :: (O1 ++ Oc)) _ _ _ HJ3.out (hV34.mono fun b hb => List.mem_append.2 (.inr (by simp at hb; exact hb ▸ HOcn.out.1))) (Claims.one (Nat.le_refl _) (by omega))
      have hSp : SomeBoth (setB (lotsOf ts ss)) (setB (lotsOf ts2 ss2)) lo hi (bothOf (setB (lotsOf ts2 ss2)) pre ++ pre1 ++ [(x3, x4)]) := ⟨(x1 - lo).toNat + jj, by omega, by rw [List.append_assoc, hEJ.out, HME2.out jj hjj]⟩
      obtain ⟨fn, tmps, assign, body, hy, hR⟩ := HY.out _ _ (x3, x4) V4 hJ4 hSp
      have hK4 : Keeps Kp V2 V4 := HK3.out.trans (Keeps.of_grown hV34 fun o ho hm => HAP.out O1 hO1 o ho (by simp at hm; simp [hm]))
      have HK4 := Lib.hid hK4
      have hsub : ∀ o ∈ Kp, o ∈ V3.heap.size :: (O1 ++ Oc) := fun o ho => List.mem_cons_of_mem _ (List.mem_append.2 (.inr (HKO.out o ho)))
      have hsub1 : ∀ o ∈ [Vn.heap.size] ++ O1, o ∈ V3.heap.size :: (O1 ++ Oc) := fun o ho => List.mem_cons_of_mem _ (by
        rcases List.mem_append.1 ho with ho | ho
        · simp at ho; exact List.mem_append.2 (.inr (ho ▸ HOcn.out.1))
        · exact List.mem_append.2 (.inl ho))
      have HSUB := Lib.hid (And.intro hsub hsub1)
      clear hJ4 hSp hK4 hsub hsub1 hV34 hg4 hcn
      gi_wp2_with fail
      refine (roundIn_go hR).mono ?_
      rintro e W5 ⟨(⟨rfl, hJ5⟩ | ⟨rfl, hJx5⟩), hk5⟩
      · have R : Hid (Keeps ([Vn.heap.size] ++ O1) V4 W5 ∧ BothIn Oc Kp V2 (bothOf (setB (lotsOf ts2 ss2)) pre) J O1 (pre1 ++ [(x3, x4)]) W5) := Lib.hid ⟨hk5.mono HSUB.out.2, by
          rw [List.append_assoc] at hJ5
          exact HJ.out _ _ _ _ _ hJ5 (GrownL.refl _ _) (claims_sub fun o ho => List.mem_cons_of_mem _ ho), HK4.out.trans (hk5.mono HSUB.out.1)⟩
        clear hJ5 hk5 hR hy f0 f1 f2
        gi_wp2_with fail
        exact R.out
      · have R : Hid (Keeps ([Vn.heap.size] ++ O1) V4 W5 ∧ BothInX Oc Kp V2 (bothOf (setB (lotsOf ts2 ss2)) pre) Jx .ret O1 (pre1 ++ [(x3, x4)]) W5) := Lib.hid ⟨hk5.mono HSUB.out.2, rfl, ⟨_, fun b hb => List.mem_cons_of_mem _ hb, by
          rw [List.append_assoc] at hJx5
          exact hJx5⟩, HK4.out.trans (hk5.mono HSUB.out.1)⟩
        clear hJx5 hk5 hR hy f0 f1 f2
        gi_wp2_with fail
        exact R.out
    case jdone =>
      rintro O1 xs V3 hO1 hS ⟨hj, hk⟩ ⟨V4, ⟨q', hl4, hq4, hp4⟩, hg4⟩
      have hV := HB5.out.size
      have R : Hid (Keeps ([W0.heap.size, W0.heap.size + 1] ++ O) V2 V3 ∧ BothI W.heap.size w1.heap.size (W0.heap.size + 2) l bs (lotsOf ts2 ss2) A1 c1 J O (pre ++ [(x1, x2)]) V3) := Lib.hid ⟨hk.mono HKS.out.1, by
          rw [bothOf_snoc]
          rw [hS] at hj
          exact HJ.out _ _ _ _ _ hj (GrownL.refl _ _) (claims_sub fun o ho => List.mem_append.2 (.inr (HOcn.out.2 o ho))),
        fun o ho => by have := HO.out.2 o ho; have := hk.size; omega, hk.cell HB0.out HKS.out.2.1, hk.cell HB1.out HKS.out.2.2,
        hp4.away hg4 (fun g e => by have := HGS.out g e; simp; omega), q', hl4.away hg4 (fun b hb => by have := HBS.out b hb; simp; omega), .inr ⟨(x1, x2), by simp, hq4⟩⟩
      clear hj hk hl4 hq4 hp4 hg4 hS
      gi_wp2_with fail
      exact R.out
    case jstop =>
      rintro c O1 pre1 V3 hO1 ⟨jj, hjj, hej⟩ ⟨rfl, ⟨Oy, hy, hj⟩, hk⟩
      have R : Hid (Keeps ([W0.heap.size, W0.heap.size + 1] ++ O) V2 V3 ∧ BothX W.heap.size (W0.heap.size + 2) (setB (lotsOf ts ss)) (setB (lotsOf ts2 ss2)) lo hi Jx .ret O (pre ++ [(x1, x2)]) V3) := Lib.hid ⟨hk.mono HKS.out.1, rfl, Oy, _, fun b hb => hy b (List.mem_append.2 (.inr (HOcn.out.2 b hb))), ⟨(x1 - lo).toNat + jj, by omega, by rw [hej, HME2.out jj hjj]⟩, hj⟩
      clear hj hk hy hej
      gi_wp2_with fail
      exact R.out
  case done =>
    rintro O xs V hO hS ⟨hj, _⟩ _ hDf
    have hm0 : W0.heap.size ∈ O ++ BothB W.heap.size (W0.heap.size + 2) := HB.out O _ (List.mem_cons_self ..)
    have R : Hid (SeqPostK (AllBoth (setB (lotsOf ts ss)) (setB (lotsOf ts2 ss2)) lo hi) (SomeBoth (setB (lotsOf ts ss)) (setB (lotsOf ts2 ss2)) lo hi) J Jx (fun _ => True) (.returned (.tuple #[])) (V.putObj W0.heap.size (.deferred none))) :=
      Lib.hid ⟨⟨_, rfl⟩, .inl ⟨_, _, by rw [hS]; exact (HME.out _).1, HJ.out _ _ _ _ _ hj (GrownL.putObj _ _ _ hm0) (Claims.refl _ _ _), trivial⟩⟩
    clear hj hS
    gi_wp2_with fail
    refine ⟨by simp, .inl ⟨_, _, rfl, run_takeDeferred hDf, ?_⟩⟩
    exact ⟨_, results_none rfl _ _ _, R.out⟩
  case stop =>
    rintro c O pre V hO _ ⟨rfl, Oy, p, hy, hp, hj⟩ hDf
    have hm0 : W0.heap.size ∈ Oy := hy _ (HB.out O _ (List.mem_cons_self ..))
    have R := Lib.hid (HJx.out _ _ _ _ hj (GrownL.putObj _ W0.heap.size (.deferred none) hm0))
    have HP := Lib.hid hp
    clear hj hp hy
    gi_wp2_with fail
    refine ⟨by simp, .inl ⟨_, _, rfl, run_takeDeferred hDf, ?_⟩⟩
    exact ⟨_, results_none rfl _ _ _, ⟨_, rfl⟩, .inr ⟨_, _, HP.out, R.out⟩⟩
end Go.Proofs.YtlhgpeelenelbaaDoor

/- Two sets in memory; contracts of checkBoth and season. -/
namespace Go.Proofs.YtlhgpeelenelbaaDoor
open Go.RowKit

theorem check_rm {v : Value} {ts : List T3} {ss : List S2} {c : Int} {w : World} (h : RM w.heap.size v ts ss w) (hc : CheckIs ts ss c) :
    Calls Tryd.prog 25 #[v] w fun e w' => e = .returned (.int .i64 c) ∧ Below w.heap.size w w' := by
  obtain ⟨a, b, e, a', b', e', rfl, x1, x2⟩ := h
  exact check_any _ _ ts ss c w x1 x2 hc
theorem rcheck_rm {v : Value} {ts : List T3} {ss : List S2} {c : Int} {w : World} (h : RM w.heap.size v ts ss w) (hc : CheckIs ts ss c) :
    Calls Tryd.prog 26 #[v] w fun e w' => e = .returned (.int .i64 c) ∧ Below w.heap.size w w' := by
  obtain ⟨a, b, e, a', b', e', rfl, x1, x2⟩ := h
  exact rcheck_any _ _ ts ss c w x1 x2 hc

/-- The two sets that a function holds in its first blocks. -/
abbrev N2 (w : World) (v0 v1 u0 u1 : Value) (W : World) : Prop :=
  W.cell? ⟨w.heap.size, 0, none⟩ = some v0 ∧ W.cell? ⟨w.heap.size, 1, none⟩ = some v1 ∧ W.cell? ⟨w.heap.size + 1, 0, none⟩ = some u0 ∧ W.cell? ⟨w.heap.size + 1, 1, none⟩ = some u1 ∧ w.heap.size + 1 < W.heap.size ∧ Below w.heap.size w W
def N2d (w : World) (v0 v1 u0 u1 : Value) (W : World) : Prop := N2 w v0 v1 u0 u1 W
section
variable {w W W' : World} {v0 v1 u0 u1 : Value}
theorem N2d.out (h : N2d w v0 v1 u0 u1 W) : N2 w v0 v1 u0 u1 W := h
theorem N2d.below (h : N2d w v0 v1 u0 u1 W) (hb : Below W.heap.size W W') : N2d w v0 v1 u0 u1 W' := by
  obtain ⟨a0, a1, b0, b1, l1, hB⟩ := h.out
  have hs := hb.size
  exact ⟨(hb.cell (p := ⟨w.heap.size, 0, none⟩) (by show w.heap.size < _; omega)).trans a0, (hb.cell (p := ⟨w.heap.size, 1, none⟩) (by show w.heap.size < _; omega)).trans a1, (hb.cell (p := ⟨w.heap.size + 1, 0, none⟩) l1).trans b0, (hb.cell (p := ⟨w.heap.size + 1, 1, none⟩) l1).trans b1, by omega, hB.trans (hb.mono (by omega))⟩
theorem N2d.drew (h : N2d w v0 v1 u0 u1 W) : N2d w v0 v1 u0 u1 W.drew := h.below (Below.refl _ _).drew
theorem N2d.alloc (h : N2d w v0 v1 u0 u1 W) (o : Obj) : N2d w v0 v1 u0 u1 (W.alloc o) := h.below ((Below.refl _ _).alloc (Nat.le_refl _) o)
theorem N2d.new (t t' : TypeId) : N2d w v0 v1 u0 u1 ((w.alloc (.cells #[v0, v1] t)).alloc (.cells #[u0, u1] t')) :=
  ⟨by simp [go_sem], by simp [go_sem], by simp [go_sem], by simp [go_sem], by simp, ((Below.refl _ _).alloc (Nat.le_refl _) _).alloc (by simp) _⟩
theorem N2d.bel (h : N2d w v0 v1 u0 u1 W) : Below w.heap.size w W := h.out.2.2.2.2.2
theorem N2d.siz (h : N2d w v0 v1 u0 u1 W) : w.heap.size ≤ W.heap.size := h.bel.size
end

/-- The error of two sets. -/
def BothIs (c c' d : Int) : Prop := (c ≠ 0 ∧ d = c) ∨ (c = 0 ∧ d = c')
theorem BothIs.exists_ (c c' : Int) : ∃ d, BothIs c c' d := by
  by_cases h : c = 0
  · exact ⟨_, .inr ⟨h, rfl⟩⟩
  · exact ⟨_, .inl ⟨h, rfl⟩⟩

set_option maxHeartbeats 1000000 in
set_option maxRecDepth 100000 in
theorem checkBoth_any (va vb : Value) (ts ts2 : List T3) (ss ss2 : List S2) (c c' d : Int) (w : World) (h : RM w.heap.size va ts ss w) (h' : RM w.heap.size vb ts2 ss2 w) (hc : CheckIs ts ss c) (hc' : CheckIs ts2 ss2 c') (hd : BothIs c c' d) :
    Calls Tryd.prog 98 #[va, vb] w fun e w' => e = .returned (.int .i64 d) ∧ Below w.heap.size w w' := by
  obtain ⟨A, k, ca, A', k', ca', rfl, -⟩ := id h
  obtain ⟨B, l, cb, B', l', cb', rfl, -⟩ := id h'
  have C := Lib.hid fun W (S : N2d w (.slice A k ca) (.slice A' k' ca') (.slice B l cb) (.slice B' l' cb') W) => check_rm (h.up S.siz S.bel) hc
  have C' := Lib.hid fun W (S : N2d w (.slice A k ca) (.slice A' k' ca') (.slice B l cb) (.slice B' l' cb') W) => check_rm (h'.up S.siz S.bel) hc'
  have S0 := Lib.hid (N2d.new (w := w) (v0 := .slice A k ca) (v1 := .slice A' k' ca') (u0 := .slice B l cb) (u1 := .slice B' l' cb') 25 25)
  clear h h' hc hc'
  rcases hd with ⟨h0, rfl⟩ | ⟨rfl, rfl⟩
  · go_enter Tryd.func98, Tryd.ntmps98
    go_wp2_with fail
    refine (C.out _ S0.out).mono ?_
    rintro e w1 ⟨rfl, h1⟩
    have S := Lib.hid (S0.out.below h1)
    clear h1 S0
    go_wp2_with fail
    go_ret
    exact ⟨rfl, S.out.bel⟩
  · go_enter Tryd.func98, Tryd.ntmps98
    go_wp2_with fail
    refine (C.out _ S0.out).mono ?_
    rintro e w1 ⟨rfl, h1⟩
    have S := Lib.hid (S0.out.below h1)
    clear h1 S0
    obtain ⟨t0, t1, t2, t3, t4, _⟩ := S.out.out
    go_wp2_with fail
    refine (C'.out _ S.out).mono ?_
    rintro e w2 ⟨rfl, h2⟩
    have S := Lib.hid (S.out.below h2)
    clear h2 t0 t1 t2 t3 t4
    go_wp2_with fail
    go_ret
    exact ⟨rfl, S.out.bel⟩

set_option maxHeartbeats 400000 in
theorem season_any (w : World) : Calls Tryd.prog 100 #[] w fun e w' => e = .returned (sv2 0 1048576) ∧ Below w.heap.size w w' := by
  go_enter Tryd.func100, Tryd.ntmps100
  go_wp2_with fail
  exact bodyPost_ret (v := sv2 0 1048576) (by simp [results, Tryd.results100, go_sem]) rfl ⟨rfl, (Below.refl _ _).alloc (Nat.le_refl _) _⟩
end Go.Proofs.YtlhgpeelenelbaaDoor

/- Contract of Common. -/
namespace Go.Proofs.YtlhgpeelenelbaaDoor
open Go.RowKit

/-- Two sets and a span that a function holds in its first blocks. -/
abbrev N3 (w : World) (v0 v1 u0 u1 z0 z1 : Value) (W : World) : Prop :=
  W.cell? ⟨w.heap.size, 0, none⟩ = some v0 ∧ W.cell? ⟨w.heap.size, 1, none⟩ = some v1 ∧ W.cell? ⟨w.heap.size + 1, 0, none⟩ = some u0 ∧ W.cell? ⟨w.heap.size + 1, 1, none⟩ = some u1 ∧
  W.cell? ⟨w.heap.size + 1 + 1, 0, none⟩ = some z0 ∧ W.cell? ⟨w.heap.size + 1 + 1, 1, none⟩ = some z1 ∧ w.heap.size + 1 + 1 < W.heap.size ∧ Below w.heap.size w W
def N3d (w : World) (v0 v1 u0 u1 z0 z1 : Value) (W : World) : Prop := N3 w v0 v1 u0 u1 z0 z1 W
section
variable {w W W' : World} {v0 v1 u0 u1 z0 z1 : Value}
theorem N3d.out (h : N3d w v0 v1 u0 u1 z0 z1 W) : N3 w v0 v1 u0 u1 z0 z1 W := h
theorem N3d.grown {bs : List Nat} (h : N3d w v0 v1 u0 u1 z0 z1 W) (hg : GrownL bs W W') (hn : ∀ b ∈ bs, w.heap.size + 1 + 1 < b) : N3d w v0 v1 u0 u1 z0 z1 W' := by
  obtain ⟨a0, a1, b0, b1, c0, c1, l1, hB⟩ := h.out
  have hs := hg.size
  have n0 : w.heap.size ∉ bs := fun hm => by have := hn _ hm; omega
  have n1 : w.heap.size + 1 ∉ bs := fun hm => by have := hn _ hm; omega
  have n2 : w.heap.size + 1 + 1 ∉ bs := fun hm => by have := hn _ hm; omega
  exact ⟨hg.cell a0 n0, hg.cell a1 n0, hg.cell b0 n1, hg.cell b1 n1, hg.cell c0 n2, hg.cell c1 n2, by omega, hB.trans (hg.below (fun b hb => by have := hn b hb; omega) (by omega))⟩
theorem N3d.below (h : N3d w v0 v1 u0 u1 z0 z1 W) (hb : Below W.heap.size W W') : N3d w v0 v1 u0 u1 z0 z1 W' := h.grown (GrownL.of_below (bs := []) hb) (by simp)
theorem N3d.drew (h : N3d w v0 v1 u0 u1 z0 z1 W) : N3d w v0 v1 u0 u1 z0 z1 W.drew := h.below (Below.refl _ _).drew
theorem N3d.alloc (h : N3d w v0 v1 u0 u1 z0 z1 W) (o : Obj) : N3d w v0 v1 u0 u1 z0 z1 (W.alloc o) := h.below ((Below.refl _ _).alloc (Nat.le_refl _) o)
theorem N3d.new (t t' t'' : TypeId) : N3d w v0 v1 u0 u1 z0 z1 (((w.alloc (.cells #[v0, v1] t)).alloc (.cells #[u0, u1] t')).alloc (.cells #[z0, z1] t'')) :=
  ⟨by simp [go_sem], by simp [go_sem], by simp [go_sem], by simp [go_sem], by simp [go_sem], by simp [go_sem], by simp, (((Below.refl _ _).alloc (Nat.le_refl _) _).alloc (by simp) _).alloc (by simp <;> omega) _⟩
theorem N3d.bel (h : N3d w v0 v1 u0 u1 z0 z1 W) : Below w.heap.size w W := h.out.2.2.2.2.2.2.2
theorem N3d.siz (h : N3d w v0 v1 u0 u1 z0 z1 W) : w.heap.size ≤ W.heap.size := h.bel.size
end

set_option maxHeartbeats 4000000 in
set_option maxRecDepth 1000000 in
theorem common_any (va vb : Value) (ts : List T3) (ss : List S2) (ts2 : List T3) (ss2 : List S2) (lo hi c c' d0 d : Int) (w : World) (h : RM w.heap.size va ts ss w) (h' : RM w.heap.size vb ts2 ss2 w) (hc : CheckIs ts ss c) (hc' : CheckIs ts2 ss2 c') (hd0 : BothIs c c' d0) (hd : InIs d0 lo hi d) :
    Calls Tryd.prog 59 #[va, vb, sv2 lo hi] w (ListPost d (spn (andH (setB (lotsOf ts ss)) (setB (lotsOf ts2 ss2))) lo (hi + 1 - lo).toNat) w) := by
  obtain ⟨A, k, ca, A', k', ca', rfl, -⟩ := id h
  obtain ⟨B, l, cb, B', l', cb', rfl, -⟩ := id h'
  have H := Lib.hid h
  have H' := Lib.hid h'
  have C := Lib.hid fun W (S : N3d w (.slice A k ca) (.slice A' k' ca') (.slice B l cb) (.slice B' l' cb') (.int .i64 lo) (.int .i64 hi) W) => checkBoth_any _ _ ts ts2 ss ss2 c c' d0 W (h.up S.siz S.bel) (h'.up S.siz S.bel) hc hc' hd0
  have S0 := Lib.hid (N3d.new (w := w) (v0 := .slice A k ca) (v1 := .slice A' k' ca') (u0 := .slice B l cb) (u1 := .slice B' l' cb') (z0 := .int .i64 lo) (z1 := .int .i64 hi) 25 25 49)
  clear h h'
  rcases hd with ⟨h0, rfl⟩ | ⟨rfl, hm, rfl⟩ | ⟨rfl, hm, rfl⟩
  · have hb0 : (d != 0) = true := by rw [bne_iff_ne]; exact h0
    have HN := Lib.hid h0
    clear h0 hc hc' hd0
    go_enter Tryd.func59, Tryd.ntmps59
    go_wp2_with fail
    refine (C.out _ S0.out).mono ?_
    rintro e w1 ⟨rfl, h1⟩
    have S := Lib.hid (S0.out.below h1)
    clear h1 S0
    go_wp2_with fail
    go_ret2
    exact ⟨_, [], d, rfl, rs_nil _ _, S.out.bel, .inl ⟨HN.out, rfl, rfl⟩⟩
  · obtain ⟨e1, e2⟩ : c = 0 ∧ c' = 0 := by rcases hd0 with ⟨a, b⟩ | ⟨a, b⟩ <;> omega
    subst e1 e2
    obtain ⟨k1, k2, k3⟩ := checkIs_ok hc
    obtain ⟨l1, l2, l3⟩ := checkIs_ok hc'
    obtain ⟨s1, s2, s3⟩ := id hm
    have HK := Lib.hid (And.intro k3 l3)
    have K := Lib.hid fun W => isSpan_yes lo hi W hm
    clear hc hc' hd0 hm k3 l3
    go_enter Tryd.func59, Tryd.ntmps59
    go_wp2_with fail
    refine (C.out _ S0.out).mono ?_
    rintro e w1 ⟨rfl, h1⟩
    have S := Lib.hid (S0.out.below h1)
    clear h1 S0
    obtain ⟨t0, t1, t2, t3, t4, t5, _⟩ := S.out.out
    go_wp2_with fail
    refine (K.out _).mono ?_
    rintro e w2 ⟨rfl, h2⟩
    have S2 := Lib.hid (S.out.below h2)
    clear h2 S t0 t1 t2 t3 t4 t5
    obtain ⟨t0, t1, t2, t3, t4, t5, _⟩ := S2.out.out
    go_wp2_with fail
    refine (both_any A k ca A' k' ca' B l cb B' l' cb' lo hi _).mono ?_
    rintro e w3 ⟨rfl, rfl⟩
    have b3 : Below w2.heap.size w2 (((w2.alloc (.cells #[.slice A k ca, .slice A' k' ca'] 25)).alloc (.cells #[.slice B l cb, .slice B' l' cb'] 25)).alloc (.cells #[.int .i64 lo, .int .i64 hi] 49)) :=
      (((Below.refl _ _).alloc (Nat.le_refl _) _).alloc (by simp) _).alloc (by simp <;> omega) _
    have B3 := Lib.hid (S2.out.bel.trans (b3.mono S2.out.siz))
    have hr := H.out.up (Nat.le_trans S2.out.siz b3.size) B3.out
    have hr' := H'.out.up (Nat.le_trans S2.out.siz b3.size) B3.out
    have L := Lib.hid (listedK_any 137 _ enters_both1 _ _ _ _ (both_seq w2.heap.size (w2.heap.size + 1) (w2.heap.size + 1 + 1) A k ca A' k' ca' B l cb B' l' cb' ts ss ts2 ss2 lo hi _ HK.out.1 k1 k2 hr HK.out.2 l1 l2 hr' (by simp [go_sem]) (by simp [go_sem]) (by simp [go_sem]) (by simp [go_sem]) (by simp [go_sem]) (by simp [go_sem]) s1 (by omega) s3) (fun _ _ => trivial))
    clear b3 hr hr' t0 t1 t2 t3 t4 t5
    go_wp2_with fail
    refine L.out.mono ?_
    rintro e w4 h4
    obtain ⟨v3, l3, c3, rfl, r1, r2, r3⟩ := listed_post (full := spn (andH (setB (lotsOf ts ss)) (setB (lotsOf ts2 ss2))) lo (hi + 1 - lo).toNat) h4 (fun l h => h) (fun p hp => by obtain ⟨k, hk, rfl⟩ := hp; exact spn_len_mono _ _ (by omega))
    have R := Lib.hid (And.intro r1 r3)
    have B4 := Lib.hid (B3.out.trans (r2.mono B3.out.size))
    clear h4 r1 r2 r3
    go_wp2_with fail
    go_ret2
    exact ⟨_, l3, _, rfl, R.out.1, B4.out, R.out.2⟩
  · have K := Lib.hid fun W => isSpan_no lo hi W hm
    clear hc hc' hd0 hm
    go_enter Tryd.func59, Tryd.ntmps59
    go_wp2_with fail
    refine (C.out _ S0.out).mono ?_
    rintro e w1 ⟨rfl, h1⟩
    have S := Lib.hid (S0.out.below h1)
    clear h1 S0
    obtain ⟨t0, t1, t2, t3, t4, t5, _⟩ := S.out.out
    go_wp2_with fail
    refine (K.out _).mono ?_
    rintro e w2 ⟨rfl, h2⟩
    have S2 := Lib.hid (S.out.below h2)
    clear h2 S t0 t1 t2 t3 t4 t5
    go_wp2_with fail
    go_ret2
    exact ⟨_, [], 1, rfl, rs_nil _ _, S2.out.bel, .inl ⟨by omega, rfl, rfl⟩⟩
end Go.Proofs.YtlhgpeelenelbaaDoor

/- Contract of Covers. -/
namespace Go.Proofs.YtlhgpeelenelbaaDoor
open Go.RowKit
attribute [local go_sem] Oper.semAt_some

/-- What Covers says: all minutes are there, or the first one that is not. -/
def CovIs (H : Int → Bool) (lo hi r : Int) (b : Bool) : Prop := (b = true ∧ r = 0 ∧ ∀ m, lo ≤ m → m ≤ hi → H m = true) ∨ (b = false ∧ lo ≤ r ∧ r ≤ hi ∧ H r = false ∧ ∀ m, lo ≤ m → m < r → H m = true)
theorem CovIs.unique {H : Int → Bool} {lo hi r r' : Int} {b b' : Bool} (h : CovIs H lo hi r b) (h' : CovIs H lo hi r' b') : r = r' ∧ b = b' := by
  rcases h with ⟨rfl, rfl, h⟩ | ⟨rfl, h1, h2, h3, h4⟩ <;> rcases h' with ⟨rfl, rfl, k⟩ | ⟨rfl, k1, k2, k3, k4⟩
  · exact ⟨rfl, rfl⟩
  · rw [h r' k1 k2] at k3; cases k3
  · rw [k r h1 h2] at h3; cases h3
  · refine ⟨?_, rfl⟩
    rcases Int.lt_trichotomy r r' with c | c | c
    · rw [k4 r h1 c] at h3; cases h3
    · exact c
    · rw [h4 r' k1 c] at k3; cases k3
theorem spn_nil_none {H : Int → Bool} {lo : Int} {k : Nat} (h : spn H lo k = []) : ∀ m, lo ≤ m → m < lo + k → H m = false := by
  have hg := gap_inv H lo k
  rw [h] at hg
  exact fun m h1 h2 => hg.none m h1 h2
theorem covIs_all {H : Int → Bool} {lo hi : Int} (h : [] = spn (notH H) lo (hi + 1 - lo).toNat) : CovIs H lo hi 0 true := .inl ⟨rfl, rfl, fun m h1 h2 => by
  have := spn_nil_none h.symm m h1 (by omega)
  simpa [notH] using this⟩
theorem covIs_first {H : Int → Bool} {lo hi : Int} {x : S2} {k : Nat} (h : [] ++ [x] = spn (notH H) lo k) (hk : lo + k ≤ hi + 1) : CovIs H lo hi x.1 false := by
  obtain ⟨p1, p2, p3, p4, p5, p6⟩ := spn_prefix h
  refine .inr ⟨rfl, p3, by omega, by have := p6 x.1 (Int.le_refl _) p4; simpa [notH] using this, fun m h1 h2 => ?_⟩
  have := spn_nil_none p1.symm m h1 (by omega)
  simpa [notH] using this

theorem boxed3 {V : World} {b0 b1 b2 : Nat} {t0 t1 t2 : TypeId} {v0 v1 v2 : Value} (h0 : Boxed V b0 t0 v0) (h1 : Boxed V b1 t1 v1) (h2 : Boxed V b2 t2 v2) (n01 : b0 ≠ b1) (n02 : b0 ≠ b2) (n12 : b1 ≠ b2) (x y z : Value) :
    Boxed (((V.setCell ⟨b0, 0, none⟩ x).setCell ⟨b1, 0, none⟩ y).setCell ⟨b2, 0, none⟩ z) b0 t0 x ∧ Boxed (((V.setCell ⟨b0, 0, none⟩ x).setCell ⟨b1, 0, none⟩ y).setCell ⟨b2, 0, none⟩ z) b1 t1 y ∧ Boxed (((V.setCell ⟨b0, 0, none⟩ x).setCell ⟨b1, 0, none⟩ y).setCell ⟨b2, 0, none⟩ z) b2 t2 z ∧
      GrownL [b0, b1, b2] V (((V.setCell ⟨b0, 0, none⟩ x).setCell ⟨b1, 0, none⟩ y).setCell ⟨b2, 0, none⟩ z) := by
  have g0 := GrownL.set (bs := [b0]) V ⟨b0, 0, none⟩ x (by simp)
  have g1 := GrownL.set (bs := [b1]) (V.setCell ⟨b0, 0, none⟩ x) ⟨b1, 0, none⟩ y (by simp)
  have g2 := GrownL.set (bs := [b2]) ((V.setCell ⟨b0, 0, none⟩ x).setCell ⟨b1, 0, none⟩ y) ⟨b2, 0, none⟩ z (by simp)
  refine ⟨boxed_grownL (boxed_grownL (h0.set x) g1 (by simp [n01])) g2 (by simp [n02]), boxed_grownL ((boxed_grownL h1 g0 (by simp [Ne.symm n01])).set y) g2 (by simp [n12]), (boxed_grownL (boxed_grownL h2 g0 (by simp [Ne.symm n02])) g1 (by simp [Ne.symm n12])).set z, ?_⟩
  exact ((g0.mono (by simp)).trans (g1.mono (by simp))).trans (g2.mono (by simp))

/-- What Covers keeps while nothing has come. -/
def CovI (W0 : World) (_ : List Nat) (pre : List S2) (V : World) : Prop := pre = [] ∧ Below W0.heap.size W0 V
/-- And what it leaves at the first gap. -/
def CovX (w : World) (c : Code) (_ : List Nat) (pre : List S2) (V : World) : Prop :=
  c = .ret ∧ ∃ x : S2, pre = [] ++ [x] ∧ Boxed V (w.heap.size + 2) 3 (.int .i64 x.1) ∧ Boxed V (w.heap.size + 3) 4 (.bool false) ∧ Boxed V (w.heap.size + 4) 30 (.int .i64 0) ∧ Below w.heap.size w V
def CovPost (d : Int) (H : Int → Bool) (lo hi : Int) (w : World) (e : Ending) (w' : World) : Prop :=
  ∃ r b, e = .returned (.tuple #[.int .i64 r, .bool b, .int .i64 d]) ∧ ((d ≠ 0 ∧ r = 0 ∧ b = false) ∨ (d = 0 ∧ CovIs H lo hi r b)) ∧ Below w.heap.size w w'

set_option maxHeartbeats 8000000 in
set_option maxRecDepth 1000000 in
theorem covers_ok (v : Value) (ts : List T3) (ss : List S2) (lo hi : Int) (w : World) (h : RM w.heap.size v ts ss w) (hc : CheckIs ts ss 0) (hs : SOk lo hi) :
    Calls Tryd.prog 60 #[v, sv2 lo hi] w (CovPost 0 (setB (lotsOf ts ss)) lo hi w) := by
  obtain ⟨k1, k2, k3⟩ := checkIs_ok hc
  obtain ⟨s1, s2, s3⟩ := hs
  have H := Lib.hid h
  obtain ⟨A, m, ca, A', m', ca', rfl, h1, h2⟩ := h
  have hB5 : Below w.heap.size w (((((w.alloc (.cells #[.slice A m ca, .slice A' m' ca'] 25)).alloc (.cells #[.int .i64 lo, .int .i64 hi] 49)).alloc (.cells #[.int .i64 0] 3)).alloc (.cells #[.bool false] 4)).alloc (.cells #[.int .i64 0] 30)) :=
    (((below_two w _ _).alloc (by simp <;> omega) _).alloc (by simp <;> omega) _).alloc (by simp <;> omega) _
  have x0 := ((Boxed.new ((w.alloc (.cells #[.slice A m ca, .slice A' m' ca'] 25)).alloc (.cells #[.int .i64 lo, .int .i64 hi] 49)) 3 (.int .i64 0)).alloc (.cells #[.bool false] 4)).alloc (.cells #[.int .i64 0] 30)
  have x1 := (Boxed.new (((w.alloc (.cells #[.slice A m ca, .slice A' m' ca'] 25)).alloc (.cells #[.int .i64 lo, .int .i64 hi] 49)).alloc (.cells #[.int .i64 0] 3)) 4 (.bool false)).alloc (.cells #[.int .i64 0] 30)
  have x2 := Boxed.new ((((w.alloc (.cells #[.slice A m ca, .slice A' m' ca'] 25)).alloc (.cells #[.int .i64 lo, .int .i64 hi] 49)).alloc (.cells #[.int .i64 0] 3)).alloc (.cells #[.bool false] 4)) 30 (.int .i64 0)
  simp only [World.size_alloc] at x0 x1 x2
  have HX5 := Lib.hid (And.intro x0 (And.intro x1 x2))
  have HB5 := Lib.hid hB5
  have C : Hid (∀ W, Below w.heap.size w W → w.heap.size ≤ W.heap.size → Calls Tryd.prog 91 #[.agg #[.slice A m ca, .slice A' m' ca'], sv2 lo hi] W fun e w' => e = .returned (.int .i64 0) ∧ Below W.heap.size W w') :=
    Lib.hid fun W hb hs => checkIn_any _ ts ss lo hi 0 0 W (H.out.up hs hb) hc (.inr (.inl ⟨rfl, ⟨s1, s2, s3⟩, rfl⟩))
  have HK3 := Lib.hid k3
  clear h1 h2 hB5 k3 hc x0 x1 x2
  refine (callsIn_wide (n := 3)).1 ?_
  refine callsIn_of_wp_marks Tryd.func60 rfl trivial ?_ rfl
  simp only [Tryd.ntmps60, List.size_toArray, List.length_cons, List.length_nil, Nat.reduceAdd, Nat.reduceSub, Array.replicate_succ, Array.replicate_zero, List.push_toArray, List.append_toArray, List.nil_append, List.cons_append]
  gi_wp2_with fail
  refine ⟨trivial, (callsIn_wide.2 (C.out _ HB5.out (by simp <;> omega))).mono ?_⟩
  rintro e w1 ⟨rfl, hb1⟩
  have hz : w.heap.size + 5 ≤ w1.heap.size := by have := hb1.size; simp at this; omega
  have y0 : w1.cell? ⟨w.heap.size, 0, none⟩ = some (.slice A m ca) := (hb1.cell (p := ⟨w.heap.size, 0, none⟩) (by simp <;> omega)).trans (by simp [go_sem])
  have y1 : w1.cell? ⟨w.heap.size, 1, none⟩ = some (.slice A' m' ca') := (hb1.cell (p := ⟨w.heap.size, 1, none⟩) (by simp <;> omega)).trans (by simp [go_sem])
  have z0 : w1.cell? ⟨w.heap.size + 1, 0, none⟩ = some (.int .i64 lo) := (hb1.cell (p := ⟨w.heap.size + 1, 0, none⟩) (by simp <;> omega)).trans (by simp [go_sem])
  have z1 : w1.cell? ⟨w.heap.size + 1, 1, none⟩ = some (.int .i64 hi) := (hb1.cell (p := ⟨w.heap.size + 1, 1, none⟩) (by simp <;> omega)).trans (by simp [go_sem])
  obtain ⟨x0, x1, x2⟩ := HX5.out
  have x0' : Boxed w1 (w.heap.size + 2) 3 (.int .i64 0) := (hb1.block _ (by simp <;> omega)).trans x0
  have x1' : Boxed w1 (w.heap.size + 3) 4 (.bool false) := (hb1.block _ (by simp <;> omega)).trans x1
  have x2' : Boxed w1 (w.heap.size + 4) 30 (.int .i64 0) := (hb1.block _ (by simp <;> omega)).trans x2
  have HX1 := Lib.hid (And.intro x0' (And.intro x1' x2'))
  have B1 := Lib.hid (HB5.out.trans (hb1.mono (by simp <;> omega)))
  clear hb1 x0 x1 x2 x0' x1' x2' HX5 HB5 C
  gi_wp2_with fail
  refine ⟨trivial, (callsIn_wide.2 (gaps_any A m ca A' m' ca' lo hi _)).mono ?_⟩
  rintro e w2 ⟨rfl, rfl⟩
  gi_wp2_with fail
  have b2 := below_two w1 (.cells #[.slice A m ca, .slice A' m' ca'] 25) (.cells #[.int .i64 lo, .int .i64 hi] 49)
  obtain ⟨W0, hW0⟩ : ∃ W0, ((w1.alloc (.cells #[.slice A m ca, .slice A' m' ca'] 25)).alloc (.cells #[.int .i64 lo, .int .i64 hi] 49)) = W0 := ⟨_, rfl⟩
  have hz0 : W0.heap.size = w1.heap.size + 2 := by rw [← hW0]; simp
  have a2 : W0.cell? ⟨w1.heap.size, 0, none⟩ = some (.slice A m ca) := by rw [← hW0]; simp [go_sem]
  have a3 : W0.cell? ⟨w1.heap.size, 1, none⟩ = some (.slice A' m' ca') := by rw [← hW0]; simp [go_sem]
  have a4 : W0.cell? ⟨w1.heap.size + 1, 0, none⟩ = some (.int .i64 lo) := by rw [← hW0]; simp [go_sem]
  have a5 : W0.cell? ⟨w1.heap.size + 1, 1, none⟩ = some (.int .i64 hi) := by rw [← hW0]; simp [go_sem]
  rw [hW0] at b2 ⊢
  obtain ⟨x0, x1, x2⟩ := HX1.out
  have HX := Lib.hid (And.intro (boxed_grownL x0 (GrownL.of_below (bs := []) b2) (by simp)) (And.intro (boxed_grownL x1 (GrownL.of_below (bs := []) b2) (by simp)) (boxed_grownL x2 (GrownL.of_below (bs := []) b2) (by simp))))
  have B2 := Lib.hid (B1.out.trans (b2.mono (by omega)))
  have HZ := Lib.hid (And.intro hz (And.intro (Nat.le_of_eq hz0) (Nat.le_of_eq hz0.symm)))
  have HS := Lib.hid (gaps_seq w1.heap.size (w1.heap.size + 1) A m ca A' m' ca' ts ss lo hi W0 HK3.out k1 k2 (H.out.up (by omega) B2.out) a2 a3 a4 a5 s1 (by omega) s3)
  have HA5 := Lib.hid a5
  clear y0 y1 z0 z1 a2 a3 a4 a5 x0 x1 x2 b2 HX1 B1 hW0 hz hz0
  refine wpIn_rangeK (gf := 126) (lb := #[.pointer (some ⟨w1.heap.size + 1, 0, none⟩), .pointer (some ⟨w1.heap.size, 0, none⟩)]) rfl enters_gaps1 HS.out (Below.refl _ _) (fun o h => by cases h) (fun _ => rfl)
    (CovI W0) (CovX w) (fun O s V h => by have := HZ.out; exact (h.2.cell (p := ⟨w1.heap.size + 1, 1, none⟩) (by show w1.heap.size + 1 < _; omega)).trans HA5.out) ?h0 ?hI ?hIx ?round ?done ?stop
  case h0 =>
    intro W' hb hsz
    exact ⟨rfl, hb⟩
  case hI =>
    rintro O O' s W1 W2 hO ⟨rfl, hB⟩ hg hcl
    replace hO := from_nil hO
    exact ⟨rfl, hB.trans (hg.below (book_ge hO (Nat.le_refl _)) hB.size)⟩
  case hIx =>
    rintro c O s W1 W2 hO ⟨rfl, x, rfl, b0, b1, b2, hB⟩ hg
    replace hO := from_nil hO
    obtain ⟨hz, hz0, hz1⟩ := HZ.out
    have hBs := hB.size
    exact ⟨rfl, x, rfl, boxed_grownL b0 hg (not_book hO (by omega)), boxed_grownL b1 hg (not_book hO (by omega)), boxed_grownL b2 hg (not_book hO (by omega)), hB.trans (hg.below (book_ge hO (by omega)) (by omega))⟩
  case round =>
    rintro O pre ⟨p, q⟩ V hO ⟨rfl, hB⟩ hsz hsp
    replace hO := from_nil hO
    obtain ⟨hz, hz0, hz1⟩ := HZ.out
    have HO := Lib.hid hO
    have HB := Lib.hid hB
    clear hO hsp
    gi_wp2_with fail
    refine ⟨Keeps.of_below ((Below.refl _ _).alloc (Nat.le_refl _) _), fun V2 hg2 _ => ?_⟩
    obtain ⟨x0, x1, x2⟩ := HX.out
    have hV : GrownL [W0.heap.size + 1] V V2 := (GrownL.of_below ((Below.refl _ _).alloc (Nat.le_refl _) _)).trans hg2
    have hW : GrownL [W0.heap.size + 1] W0 V2 := (GrownL.of_below hB).trans hV
    have d0 := boxed_grownL x0 hW (by simp <;> omega)
    have d1 := boxed_grownL x1 hW (by simp <;> omega)
    have d2 := boxed_grownL x2 hW (by simp <;> omega)
    have e0 : V2.cell? ⟨V.heap.size, 0, none⟩ = some (.int .i64 p) := hg2.cell (p := ⟨V.heap.size, 0, none⟩) (by simp [go_sem]) (by simp <;> omega)
    have e1 : V2.cell? ⟨V.heap.size, 1, none⟩ = some (.int .i64 q) := hg2.cell (p := ⟨V.heap.size, 1, none⟩) (by simp [go_sem]) (by simp <;> omega)
    have c0 := d0.cell
    have c1 := d1.cell
    have c2 := d2.cell
    have f0 := d0.frozen
    have f1 := d1.frozen
    have f2 := d2.frozen
    have q3 := boxed3 d0 d1 d2 (by omega) (by omega) (by omega) (.int .i64 p) (.bool false) (.int .i64 0)
    have BW := (B2.out.trans (hW.below (B := w.heap.size) (by simp <;> omega) (by omega))).trans (q3.2.2.2.below (B := w.heap.size) (by simp <;> omega) (by have := hW.size; omega))
    have R : Hid (Keeps ([W0.heap.size, W0.heap.size + 1] ++ O) V2 (((V2.setCell ⟨w.heap.size + 2, 0, none⟩ (.int .i64 p)).setCell ⟨w.heap.size + 3, 0, none⟩ (.bool false)).setCell ⟨w.heap.size + 4, 0, none⟩ (.int .i64 0)) ∧ CovX w .ret O ([] ++ [(p, q)]) (((V2.setCell ⟨w.heap.size + 2, 0, none⟩ (.int .i64 p)).setCell ⟨w.heap.size + 3, 0, none⟩ (.bool false)).setCell ⟨w.heap.size + 4, 0, none⟩ (.int .i64 0))) :=
      Lib.hid ⟨Keeps.of_grown q3.2.2.2 (fun o ho hm => by
        simp at ho hm
        rcases ho with ho | ho | ho
        · omega
        · omega
        · have := HO.out o ho; omega), rfl, (p, q), rfl, q3.1, q3.2.1, q3.2.2.1, BW⟩
    clear x0 x1 x2 d0 d1 d2 q3 BW hV hW hg2 hB
    gi_wp2_with fail
    exact R.out
  case done =>
    rintro O xs V hO hS ⟨rfl, hB⟩ _ hK
    replace hO := from_nil hO
    obtain ⟨hz, hz0, hz1⟩ := HZ.out
    have HS := Lib.hid (covIs_all hS)
    obtain ⟨x0, x1, x2⟩ := HX.out
    have d0 := boxed_grownL x0 (GrownL.of_below (bs := []) hB) (by simp)
    have d1 := boxed_grownL x1 (GrownL.of_below (bs := []) hB) (by simp)
    have d2 := boxed_grownL x2 (GrownL.of_below (bs := []) hB) (by simp)
    have c0 := d0.cell
    have c1 := d1.cell
    have c2 := d2.cell
    have f0 := d0.frozen
    have f1 := d1.frozen
    have f2 := d2.frozen
    have q3 := boxed3 d0 d1 d2 (by omega) (by omega) (by omega) (.int .i64 0) (.bool true) (.int .i64 0)
    have hK5 := (q3.2.2.2.block W0.heap.size (by have := (Array.getElem?_eq_some_iff.1 hK).1; omega) (by simp <;> omega)).trans hK
    have gp := GrownL.putObj (bs := [W0.heap.size]) (((V.setCell ⟨w.heap.size + 2, 0, none⟩ (.int .i64 0)).setCell ⟨w.heap.size + 3, 0, none⟩ (.bool true)).setCell ⟨w.heap.size + 4, 0, none⟩ (.int .i64 0)) W0.heap.size (.deferred none) (by simp)
    have p0 := (boxed_grownL q3.1 gp (by simp <;> omega)).cell
    have p1 := (boxed_grownL q3.2.1 gp (by simp <;> omega)).cell
    have p2 := (boxed_grownL q3.2.2.1 gp (by simp <;> omega)).cell
    have hBs := hB.size
    have BW := ((B2.out.trans (hB.mono (by omega))).trans (q3.2.2.2.below (B := w.heap.size) (by simp <;> omega) (by omega))).trans (gp.below (B := w.heap.size) (by simp <;> omega) (by have := q3.2.2.2.size; omega))
    have R := Lib.hid (And.intro hK5 (And.intro p0 (And.intro p1 (And.intro p2 BW))))
    clear x0 x1 x2 d0 d1 d2 q3 BW hB hK5 gp p0 p1 p2 hS hO
    gi_wp2_with fail
    obtain ⟨hK5, p0, p1, p2, BW⟩ := R.out
    refine ⟨by simp, .inl ⟨_, _, rfl, run_takeDeferred hK5, ?_⟩⟩
    exact ⟨.tuple #[.int .i64 0, .bool true, .int .i64 0], by simp [results, Tryd.results60, go_sem, p0, p1, p2], 0, true, rfl, .inr ⟨rfl, HS.out⟩, BW⟩
  case stop =>
    rintro c O pre V hO ⟨k, hk, hek⟩ ⟨rfl, x, rfl, b0, b1, b2, hB⟩ hK
    replace hO := from_nil hO
    obtain ⟨hz, hz0, hz1⟩ := HZ.out
    have HS := Lib.hid (covIs_first hek hk)
    have gp := GrownL.putObj (bs := [W0.heap.size]) V W0.heap.size (.deferred none) (by simp)
    have p0 := (boxed_grownL b0 gp (by simp <;> omega)).cell
    have p1 := (boxed_grownL b1 gp (by simp <;> omega)).cell
    have p2 := (boxed_grownL b2 gp (by simp <;> omega)).cell
    have BW := Lib.hid (hB.trans (gp.below (B := w.heap.size) (by simp <;> omega) hB.size))
    clear b0 b1 b2 hB hek hO gp
    gi_wp2_with fail
    refine ⟨by simp, .inl ⟨_, _, rfl, run_takeDeferred hK, ?_⟩⟩
    exact ⟨.tuple #[.int .i64 x.1, .bool false, .int .i64 0], by simp [results, Tryd.results60, go_sem, p0, p1, p2], x.1, false, rfl, .inr ⟨rfl, HS.out⟩, BW.out⟩

set_option maxHeartbeats 1000000 in
theorem covers_err (v : Value) (ts : List T3) (ss : List S2) (lo hi c d : Int) (w : World) (h : RM w.heap.size v ts ss w) (hc : CheckIs ts ss c) (hd : InIs c lo hi d) (h0 : d ≠ 0) :
    Calls Tryd.prog 60 #[v, sv2 lo hi] w (CovPost d (setB (lotsOf ts ss)) lo hi w) := by
  have H := Lib.hid h
  obtain ⟨A, m, ca, A', m', ca', rfl, h1, h2⟩ := h
  have hB5 : Below w.heap.size w (((((w.alloc (.cells #[.slice A m ca, .slice A' m' ca'] 25)).alloc (.cells #[.int .i64 lo, .int .i64 hi] 49)).alloc (.cells #[.int .i64 0] 3)).alloc (.cells #[.bool false] 4)).alloc (.cells #[.int .i64 0] 30)) :=
    (((below_two w _ _).alloc (by simp <;> omega) _).alloc (by simp <;> omega) _).alloc (by simp <;> omega) _
  have x0 := ((Boxed.new ((w.alloc (.cells #[.slice A m ca, .slice A' m' ca'] 25)).alloc (.cells #[.int .i64 lo, .int .i64 hi] 49)) 3 (.int .i64 0)).alloc (.cells #[.bool false] 4)).alloc (.cells #[.int .i64 0] 30)
  have x1 := (Boxed.new (((w.alloc (.cells #[.slice A m ca, .slice A' m' ca'] 25)).alloc (.cells #[.int .i64 lo, .int .i64 hi] 49)).alloc (.cells #[.int .i64 0] 3)) 4 (.bool false)).alloc (.cells #[.int .i64 0] 30)
  have x2 := Boxed.new ((((w.alloc (.cells #[.slice A m ca, .slice A' m' ca'] 25)).alloc (.cells #[.int .i64 lo, .int .i64 hi] 49)).alloc (.cells #[.int .i64 0] 3)).alloc (.cells #[.bool false] 4)) 30 (.int .i64 0)
  simp only [World.size_alloc] at x0 x1 x2
  have HX5 := Lib.hid (And.intro x0 (And.intro x1 x2))
  have HB5 := Lib.hid hB5
  have C : Hid (∀ W, Below w.heap.size w W → w.heap.size ≤ W.heap.size → Calls Tryd.prog 91 #[.agg #[.slice A m ca, .slice A' m' ca'], sv2 lo hi] W fun e w' => e = .returned (.int .i64 d) ∧ Below W.heap.size W w') :=
    Lib.hid fun W hb hs => checkIn_any _ ts ss lo hi c d W (H.out.up hs hb) hc hd
  have hb0 : (d != 0) = true := by rw [bne_iff_ne]; exact h0
  have HN := Lib.hid h0
  clear h1 h2 h0 hd hc hB5 x0 x1 x2
  go_enter Tryd.func60, Tryd.ntmps60
  go_wp2_with fail
  refine (C.out _ HB5.out (by simp <;> omega)).mono ?_
  rintro e w1 ⟨rfl, hb1⟩
  have hz : w.heap.size + 5 ≤ w1.heap.size := by have := hb1.size; simp at this; omega
  obtain ⟨x0, x1, x2⟩ := HX5.out
  have d0 : Boxed w1 (w.heap.size + 2) 3 (.int .i64 0) := (hb1.block _ (by simp <;> omega)).trans x0
  have d1 : Boxed w1 (w.heap.size + 3) 4 (.bool false) := (hb1.block _ (by simp <;> omega)).trans x1
  have d2 : Boxed w1 (w.heap.size + 4) 30 (.int .i64 0) := (hb1.block _ (by simp <;> omega)).trans x2
  have c0 := d0.cell
  have c1 := d1.cell
  have c2 := d2.cell
  have f0 := d0.frozen
  have f1 := d1.frozen
  have f2 := d2.frozen
  have q3 := boxed3 d0 d1 d2 (by omega) (by omega) (by omega) (.int .i64 0) (.bool false) (.int .i64 d)
  have p0 := q3.1.cell
  have p1 := q3.2.1.cell
  have p2 := q3.2.2.1.cell
  have BW := (HB5.out.trans (hb1.mono (by simp <;> omega))).trans (q3.2.2.2.below (B := w.heap.size) (by simp <;> omega) (by omega))
  have R := Lib.hid (And.intro p0 (And.intro p1 (And.intro p2 BW)))
  clear hb1 x0 x1 x2 d0 d1 d2 q3 p0 p1 p2 BW C HX5 HB5
  go_wp2_with fail
  obtain ⟨p0, p1, p2, BW⟩ := R.out
  refine bodyPost_ret (v := .tuple #[.int .i64 0, .bool false, .int .i64 d]) ?_ rfl ?_
  · simp [results, Tryd.results60, go_sem, p0, p1, p2]
  · exact ⟨0, false, rfl, .inl ⟨HN.out, rfl, rfl⟩, BW⟩

theorem covers_any (v : Value) (ts : List T3) (ss : List S2) (lo hi c d : Int) (w : World) (h : RM w.heap.size v ts ss w) (hc : CheckIs ts ss c) (hd : InIs c lo hi d) :
    Calls Tryd.prog 60 #[v, sv2 lo hi] w (CovPost d (setB (lotsOf ts ss)) lo hi w) := by
  by_cases h0 : d = 0
  · subst h0
    obtain ⟨rfl, hs⟩ := inIs_ok hd
    exact covers_ok v ts ss lo hi w h hc hs
  · exact covers_err v ts ss lo hi c d w h hc hd h0
end Go.Proofs.YtlhgpeelenelbaaDoor

/- Plain mathematics: what the spans of a set are: in order, apart, and all of it. -/
namespace Go.Proofs.YtlhgpeelenelbaaDoor

/-- A minute is in one of the spans. -/
def inS (l : List (Int × Int)) (m : Int) : Bool := l.any fun x => decide (x.1 ≤ m) && decide (m ≤ x.2)
theorem inS_iff (l : List (Int × Int)) (m : Int) : inS l m = true ↔ ∃ x ∈ l, x.1 ≤ m ∧ m ≤ x.2 := by simp [inS]
theorem inS_false (l : List (Int × Int)) (m : Int) : inS l m = false ↔ ∀ x ∈ l, ¬ (x.1 ≤ m ∧ m ≤ x.2) := by
  rw [← Bool.not_eq_true, inS_iff]
  simp
theorem mem_more {l : List (Int × Int)} {m : Int} (h : ∀ y ∈ l, y.1 ≤ y.2 ∧ y.2 < m) (n : Int) : (∃ x ∈ more l m, x.1 ≤ n ∧ n ≤ x.2) ↔ ((∃ x ∈ l, x.1 ≤ n ∧ n ≤ x.2) ∨ n = m) := by
  rcases list_cases l with rfl | ⟨i, x, rfl⟩
  · rw [more_empty]
    simp
    omega
  · have hx := h x (by simp)
    rw [more_snoc]
    split
    · rename_i e
      constructor
      · rintro ⟨y, hy, y1, y2⟩
        rcases List.mem_append.1 hy with hy | hy
        · exact .inl ⟨y, List.mem_append.2 (.inl hy), y1, y2⟩
        · simp at hy
          subst hy
          simp at y1 y2
          by_cases c : n = m
          · exact .inr c
          · exact .inl ⟨x, by simp, y1, by omega⟩
      · rintro (⟨y, hy, y1, y2⟩ | rfl)
        · rcases List.mem_append.1 hy with hy | hy
          · exact ⟨y, List.mem_append.2 (.inl hy), y1, y2⟩
          · simp at hy
            subst hy
            exact ⟨(y.1, m), by simp, y1, by simp; omega⟩
        · exact ⟨(x.1, n), by simp, by simp; omega, by simp⟩
    · constructor
      · rintro ⟨y, hy, y1, y2⟩
        rcases List.mem_append.1 hy with hy | hy
        · exact .inl ⟨y, hy, y1, y2⟩
        · simp at hy
          subst hy
          simp at y1 y2
          exact .inr (by omega)
      · rintro (⟨y, hy, y1, y2⟩ | rfl)
        · exact ⟨y, List.mem_append.2 (.inl hy), y1, y2⟩
        · exact ⟨(n, n), by simp, by simp, by simp⟩
/-- The spans have just the minutes of the set. -/
theorem mem_spn (H : Int → Bool) (lo : Int) : ∀ k : Nat, ∀ m, (∃ x ∈ spn H lo k, x.1 ≤ m ∧ m ≤ x.2) ↔ (lo ≤ m ∧ m < lo + k ∧ H m = true)
  | 0, m => by simp [spn]; omega
  | k + 1, m => by
    have ih := mem_spn H lo k m
    unfold spn
    split
    · rename_i hH
      rw [mem_more (fun y hy => ⟨(spn_in H lo k y hy).2.1, (spn_in H lo k y hy).2.2.1⟩), ih]
      constructor
      · rintro (⟨h1, h2, h3⟩ | rfl)
        · exact ⟨h1, by omega, h3⟩
        · exact ⟨by omega, by omega, hH⟩
      · rintro ⟨h1, h2, h3⟩
        by_cases c : m = lo + k
        · exact .inr c
        · exact .inl ⟨h1, by omega, h3⟩
    · rename_i hH
      rw [ih]
      constructor
      · rintro ⟨h1, h2, h3⟩
        exact ⟨h1, by omega, h3⟩
      · rintro ⟨h1, h2, h3⟩
        refine ⟨h1, ?_, h3⟩
        by_cases c : m = lo + k
        · subst c; exact absurd h3 hH
        · omega
theorem inS_spn (H : Int → Bool) (lo : Int) (k : Nat) (m : Int) (h1 : lo ≤ m) (h2 : m < lo + k) : inS (spn H lo k) m = H m := by
  cases h : H m with
  | true => exact (inS_iff _ _).2 ((mem_spn H lo k m).2 ⟨h1, h2, h⟩)
  | false =>
    cases h' : inS (spn H lo k) m with
    | false => rfl
    | true =>
      have := ((mem_spn H lo k m).1 ((inS_iff _ _).1 h')).2.2
      rw [h] at this
      cases this

/-- In order, and apart. -/
def ApartL (l : List (Int × Int)) : Prop := ∀ (i : Nat) (x : Int × Int), l[i]? = some x → x.1 ≤ x.2 ∧ (0 < i → ∃ y, l[i - 1]? = some y ∧ y.2 + 2 ≤ x.1)
theorem ApartL.nil : ApartL [] := fun i x h => by simp at h
theorem ApartL.init {i : List (Int × Int)} {x : Int × Int} (h : ApartL (i ++ [x])) : ApartL i := fun n z hz => by
  have hn := (List.getElem?_eq_some_iff.1 hz).1
  obtain ⟨h1, h2⟩ := h n z (by rw [List.getElem?_append_left hn]; exact hz)
  refine ⟨h1, fun h0 => ?_⟩
  obtain ⟨y, hy, h3⟩ := h2 h0
  rw [List.getElem?_append_left (by omega)] at hy
  exact ⟨y, hy, h3⟩
theorem ApartL.snoc {i : List (Int × Int)} {x : Int × Int} (h : ApartL i) (hx : x.1 ≤ x.2) (hl : ∀ j y, i = j ++ [y] → y.2 + 2 ≤ x.1) : ApartL (i ++ [x]) := fun n z hz => by
  by_cases hn : n < i.length
  · rw [List.getElem?_append_left hn] at hz
    obtain ⟨h1, h2⟩ := h n z hz
    refine ⟨h1, fun h0 => ?_⟩
    obtain ⟨y, hy, h3⟩ := h2 h0
    exact ⟨y, by rw [List.getElem?_append_left (by omega)]; exact hy, h3⟩
  · have hn' := (List.getElem?_eq_some_iff.1 hz).1
    obtain rfl : n = i.length := by simp at hn'; omega
    simp at hz
    subst hz
    refine ⟨hx, fun h0 => ?_⟩
    rcases list_cases i with rfl | ⟨j, y, rfl⟩
    · simp at h0
    · exact ⟨y, by simp, hl j y rfl⟩
theorem ApartL.last {i : List (Int × Int)} {x y : Int × Int} (h : ApartL (i ++ [x] ++ [y])) : x.2 + 2 ≤ y.1 := by
  obtain ⟨_, h2⟩ := h (i.length + 1) y (by simp)
  obtain ⟨z, hz, h3⟩ := h2 (by omega)
  simp at hz
  subst hz
  exact h3
theorem apart_spn (H : Int → Bool) (lo : Int) : ∀ k : Nat, ApartL (spn H lo k)
  | 0 => ApartL.nil
  | k + 1 => by
    have ih := apart_spn H lo k
    unfold spn
    split
    · rcases list_cases (spn H lo k) with e | ⟨i, x, e⟩
      · rw [e, more_empty]
        exact ApartL.nil.snoc (i := []) (Int.le_refl _) (fun j y hy => by simp at hy)
      · have hx := spn_in H lo k x (by rw [e]; simp)
        have h1 := hx.2.1
        have h2 := hx.2.2.1
        rw [e] at ih
        rw [e, more_snoc]
        split
        · refine ih.init.snoc (by show x.1 ≤ lo + (k : Int); omega) fun j y hy => ?_
          subst hy
          exact ih.last
        · refine ih.snoc (Int.le_refl _) fun j y hy => ?_
          obtain ⟨_, hy⟩ := List.append_inj' hy rfl
          obtain rfl : x = y := by simpa using hy
          show x.2 + 2 ≤ lo + (k : Int)
          omega
    · exact ih
/-- There are no more spans than every other minute. -/
theorem spn_half (H : Int → Bool) (lo : Int) : ∀ k : Nat, 2 * (spn H lo k).length ≤ k + 1 ∧ ((k = 0 ∨ H (lo + k - 1) = false) → 2 * (spn H lo k).length ≤ k)
  | 0 => by simp [spn]
  | k + 1 => by
    obtain ⟨h1, h2⟩ := spn_half H lo k
    rw [show lo + ((k + 1 : Nat) : Int) - 1 = lo + k by omega]
    unfold spn
    split
    · rename_i hH
      refine ⟨?_, fun h => by rcases h with h | h; omega; rw [hH] at h; cases h⟩
      rcases k with _ | k
      · simp [spn, more_empty]
      · cases hk : H (lo + ((k + 1 : Nat) : Int) - 1) with
        | true =>
          obtain ⟨i, y, e, hy⟩ := spn_last (H := H) (lo := lo) (k := k) (by rw [show lo + (k : Int) = lo + ((k + 1 : Nat) : Int) - 1 by omega]; exact hk)
          rw [e, more_snoc, if_pos (by omega)]
          rw [e] at h1
          simp at h1 ⊢
          omega
        | false =>
          have h3 := h2 (.inr hk)
          rcases list_cases (spn H lo (k + 1)) with e | ⟨i, y, e⟩
          · rw [e, more_empty]; simp
          · rw [e] at h3 ⊢
            rw [more_snoc]
            split
            · simp at h3 ⊢; omega
            · simp at h3 ⊢; omega
    · exact ⟨by omega, fun _ => h1⟩
theorem cntH_sum (H : Int → Bool) (lo : Int) : ∀ k : Nat, tot (spn H lo k) + tot (spn (notH H) lo k) = k
  | 0 => rfl
  | k + 1 => by
    have ih := cntH_sum H lo k
    unfold spn
    cases h : H (lo + k) with
    | true =>
      rw [if_pos rfl, if_neg (by simp [notH, h]), tot_more]
      omega
    | false =>
      rw [if_neg (by simp), if_pos (by simp [notH, h]), tot_more]
      omega
/-- The first span. -/
theorem spn_first {H : Int → Bool} {lo : Int} : ∀ {k : Nat} {x : Int × Int} {l : List (Int × Int)}, spn H lo k = x :: l → H x.1 = true ∧ lo ≤ x.1 ∧ x.1 < lo + k ∧ ∀ m, lo ≤ m → m < x.1 → H m = false
  | 0, x, l, h => by simp [spn] at h
  | k + 1, x, l, h => by
    unfold spn at h
    split at h
    · rename_i hH
      rcases list_cases (spn H lo k) with e | ⟨i, y, e⟩
      · rw [e, more_empty] at h
        obtain ⟨rfl, -⟩ := List.cons.inj h
        exact ⟨hH, by show lo ≤ lo + (k : Int); omega, by show lo + (k : Int) < lo + ((k + 1 : Nat) : Int); omega, fun m h1 h2 => by
          cases hm : H m with
          | false => rfl
          | true =>
            have h2' : m < lo + (k : Int) := h2
            obtain ⟨z, hz, _⟩ := (mem_spn H lo k m).2 ⟨h1, h2', hm⟩
            rw [e] at hz; simp at hz⟩
      · have key : ∃ x' l', spn H lo k = x' :: l' ∧ x'.1 = x.1 := by
          rw [e, more_snoc] at h
          rcases i with _ | ⟨z, i⟩
          · split at h
            · obtain ⟨rfl, -⟩ := List.cons.inj h
              exact ⟨y, [], by rw [e]; rfl, rfl⟩
            · obtain ⟨rfl, -⟩ := List.cons.inj h
              exact ⟨y, [], by rw [e]; rfl, rfl⟩
          · split at h
            · obtain ⟨rfl, -⟩ := List.cons.inj h
              exact ⟨z, i ++ [y], by rw [e]; rfl, rfl⟩
            · obtain ⟨rfl, -⟩ := List.cons.inj h
              exact ⟨z, i ++ [y], by rw [e]; rfl, rfl⟩
        obtain ⟨x', l', hx, ex⟩ := key
        obtain ⟨h1, h2, h3, h4⟩ := spn_first hx
        rw [ex] at h1 h2 h3 h4
        exact ⟨h1, h2, by omega, h4⟩
    · obtain ⟨h1, h2, h3, h4⟩ := spn_first h
      exact ⟨h1, h2, by omega, h4⟩
end Go.Proofs.YtlhgpeelenelbaaDoor

/- Lists of spans in memory; small helpers of the laws over lists. -/
namespace Go.Proofs.YtlhgpeelenelbaaDoor
open Go.RowKit

theorem ite_intro {c : Prop} [Decidable c] {A B : Prop} (h : c) (ha : A) : if c then A else B := by rw [if_pos h]; exact ha
theorem ListIs.unique {d : Int} {full l l' : List S2} {c c' : Int} (h : ListIs d full l c) (h' : ListIs d full l' c') : l = l' ∧ c = c' := by
  rcases h with ⟨a, rfl, rfl⟩ | ⟨a, b, rfl, rfl⟩ | ⟨a, b, rfl, rfl⟩ <;> rcases h' with ⟨x, rfl, rfl⟩ | ⟨x, y, rfl, rfl⟩ | ⟨x, y, rfl, rfl⟩ <;> first | exact ⟨rfl, rfl⟩ | omega
theorem InIs.exists_ (c lo hi : Int) : ∃ d, InIs c lo hi d := by
  by_cases h : c = 0
  · by_cases h' : SOk lo hi
    · exact ⟨_, .inr (.inl ⟨h, h', rfl⟩)⟩
    · exact ⟨_, .inr (.inr ⟨h, h', rfl⟩)⟩
  · exact ⟨_, .inl ⟨h, rfl⟩⟩
theorem RS.later {v : Value} {l : List S2} {W W' : World} (h : RS W.heap.size v l W) (hb : Below W.heap.size W W') : RS W'.heap.size v l W' := h.up hb.size hb
theorem RS.slice {B : Nat} {v : Value} {l : List S2} {W : World} (h : RS B v l W) : ∃ A n c, v = .slice A n c := by
  obtain ⟨A, c, rfl, _⟩ := h
  exact ⟨_, _, _, rfl⟩
theorem RS.head {v : Value} {x1 x2 : Int} {l : List S2} {W : World} (h : RS W.heap.size v ((x1, x2) :: l) W) : ∃ b o n c, v = .slice (some ⟨b, o, none⟩) n c ∧ (0 : Int) < (n : Int) ∧ b < W.heap.size ∧ W.cell? ⟨b, o, none⟩ = some (.int .i64 x1) := by
  obtain ⟨A, c, rfl, _, hx⟩ := h
  obtain ⟨b, o, rfl, hb, hc⟩ := hx (by simp)
  have := (hc 0 x1 x2 rfl).1
  rw [Nat.zero_mul, Nat.add_zero] at this
  exact ⟨b, o, _, c, rfl, by simp <;> omega, hb, this⟩
theorem sameSpans_eq (va vb : Value) (a : List S2) (w : World) (ha : RS w.heap.size va a w) (hb : RS w.heap.size vb a w) :
    Calls Tryd.prog 42 #[va, vb] w fun e w' => e = .returned (.bool true) ∧ Below w.heap.size w w' := by
  have := sameSpans_any va vb a a w ha hb
  rwa [decide_eq_true rfl] at this
end Go.Proofs.YtlhgpeelenelbaaDoor

/- Contract of brief; what Covers and Count say is one thing. -/
namespace Go.Proofs.YtlhgpeelenelbaaDoor
open Go.RowKit

def briefB (lo hi : Int) : Bool := !sokB lo hi || decide (hi - lo < 2500)
set_option maxHeartbeats 4000000 in
set_option maxRecDepth 100000 in
theorem brief_any (lo hi : Int) (w : World) : Calls Tryd.prog 58 #[sv2 lo hi] w fun e w' => e = .returned (.bool (briefB lo hi)) ∧ Below w.heap.size w w' := by
  have K0 := Lib.hid fun W => rspan_any lo hi W
  have B0 := Lib.hid ((Below.refl w.heap.size w).alloc (Nat.le_refl _) (.cells #[.int .i64 lo, .int .i64 hi] 49))
  obtain ⟨r, hr⟩ : ∃ r, briefB lo hi = r := ⟨_, rfl⟩
  rw [hr]
  unfold briefB at hr
  by_cases hs : sokB lo hi = true
  · have hs' := sokB_true.1 hs
    have W1 : IntKind.i64.wrap (hi - lo) = hi - lo := IntWalk.i64_in _ (by have := hs'.1; have := hs'.2.1; have := hs'.2.2; omega)
    rw [hs] at K0 hr
    have HR : Hid (decide (hi - lo < 2500) = r) := Lib.hid (by simpa using hr)
    clear hs hs' hr
    go_enter Tryd.func58, Tryd.ntmps58
    go_wp2_with fail
    refine (K0.out _).mono ?_
    rintro e w1 ⟨rfl, h1⟩
    have z0 : w1.cell? ⟨w.heap.size, 0, none⟩ = some (.int .i64 lo) := (h1.cell (p := ⟨w.heap.size, 0, none⟩) (by simp)).trans (by simp [go_sem])
    have z1 : w1.cell? ⟨w.heap.size, 1, none⟩ = some (.int .i64 hi) := (h1.cell (p := ⟨w.heap.size, 1, none⟩) (by simp)).trans (by simp [go_sem])
    have B1 := Lib.hid (B0.out.trans (h1.mono (by simp)))
    clear h1
    go_wp2_with fail
    go_ret
    exact ⟨by rw [HR.out]; rfl, B1.out⟩
  · have hs' : sokB lo hi = false := by simpa using hs
    rw [hs'] at K0 hr
    have HR : Hid (true = r) := Lib.hid (by simpa using hr)
    clear hs hs' hr
    go_enter Tryd.func58, Tryd.ntmps58
    go_wp2_with fail
    refine (K0.out _).mono ?_
    rintro e w1 ⟨rfl, h1⟩
    have B1 := Lib.hid (B0.out.trans (h1.mono (by simp)))
    clear h1
    go_wp2_with fail
    go_ret
    exact ⟨by rw [HR.out]; rfl, B1.out⟩

theorem CovPost.same {d : Int} {H : Int → Bool} {lo hi r r' : Int} {b b' : Bool} (h : (d ≠ 0 ∧ r = 0 ∧ b = false) ∨ (d = 0 ∧ CovIs H lo hi r b)) (h' : (d ≠ 0 ∧ r' = 0 ∧ b' = false) ∨ (d = 0 ∧ CovIs H lo hi r' b')) : r = r' ∧ b = b' := by
  rcases h with ⟨a, rfl, rfl⟩ | ⟨a, h⟩ <;> rcases h' with ⟨x, rfl, rfl⟩ | ⟨x, h'⟩
  · exact ⟨rfl, rfl⟩
  · exact absurd x a
  · exact absurd a x
  · exact h.unique h'
theorem CountIs.exists_ (ts : List T3) (ss : List S2) (lo hi d : Int) : ∃ r, CountIs ts ss lo hi d r := by
  by_cases h : d = 0
  · exact ⟨_, .inr ⟨h, rfl⟩⟩
  · exact ⟨_, .inl ⟨h, rfl⟩⟩
theorem CovIs.exists_ (H : Int → Bool) (lo hi : Int) (_h : lo ≤ hi) : ∃ p b, CovIs H lo hi p b ∧ ((spn (notH H) lo (hi + 1 - lo).toNat = [] ∧ b = true) ∨ ∃ x l, spn (notH H) lo (hi + 1 - lo).toNat = x :: l ∧ b = false ∧ p = x.1) := by
  rcases e : spn (notH H) lo (hi + 1 - lo).toNat with _ | ⟨x, l⟩
  · exact ⟨0, true, covIs_all e.symm, .inl ⟨rfl, rfl⟩⟩
  · have h1 := spn_first e
    refine ⟨x.1, false, .inr ⟨rfl, h1.2.1, by have := h1.2.2.1; omega, by simpa [notH] using h1.1, fun m m0 m1 => ?_⟩, .inr ⟨x, l, rfl, rfl, rfl⟩⟩
    have := h1.2.2.2 m m0 m1
    simpa [notH] using this
/-- A list that is short enough is returned whole. -/
theorem ListIs.full {full l : List S2} {c : Int} (h : ListIs 0 full l c) (hl : full.length ≤ 2000) : l = full ∧ c = 0 := by
  rcases h with ⟨a, _⟩ | ⟨_, _, b, d⟩ | ⟨_, a, _⟩
  · exact absurd rfl a
  · exact ⟨b, d⟩
  · omega
end Go.Proofs.YtlhgpeelenelbaaDoor

/- Contracts of long, within and apart, of lists of spans; and of brief. -/
namespace Go.Proofs.YtlhgpeelenelbaaDoor
open Go.RowKit

/-- Spans of minutes. -/
def Mins (l : List S2) : Prop := ∀ x ∈ l, 0 ≤ x.1 ∧ x.1 ≤ x.2 ∧ x.2 ≤ 1048576
theorem mins_spn {H : Int → Bool} {lo hi : Int} (h0 : 0 ≤ lo) (h1 : hi ≤ 1048576) : Mins (spn H lo (hi + 1 - lo).toNat) := fun x hx => by
  have h := spn_in _ _ _ x hx
  have := h.1
  have := h.2.1
  have := h.2.2.1
  omega
theorem tot_bd : ∀ (n : Nat) (l : List S2), l.length ≤ n → Mins l → 0 ≤ tot l ∧ tot l ≤ l.length * 1048577
  | 0, l, hn, _ => by
    obtain rfl : l = [] := List.eq_nil_of_length_eq_zero (by omega)
    simp [tot]
  | n + 1, l, hn, h => by
    rcases list_cases l with rfl | ⟨i, x, rfl⟩
    · simp [tot]
    · obtain ⟨h1, h2⟩ := tot_bd n i (by simp at hn; exact hn) (fun y hy => h y (List.mem_append.2 (.inl hy)))
      obtain ⟨a, b, c⟩ := h x (by simp)
      rw [tot_snoc]
      simp
      omega
theorem take_succ' {l : List S2} {k : Nat} {x : S2} (h : l[k]? = some x) : l.take (k + 1) = l.take k ++ [x] := by
  rw [List.take_add_one, h]; rfl

set_option maxHeartbeats 4000000 in
set_option maxRecDepth 100000 in
theorem long_any (v : Value) (l : List S2) (w : World) (h : RS w.heap.size v l w) (hm : Mins l) (hl : l.length ≤ 1000000) :
    Calls Tryd.prog 61 #[v] w fun e w' => e = .returned (.int .i64 (tot l)) ∧ Below w.heap.size w w' := by
  obtain ⟨A, ca, rfl, n1, hx⟩ := h
  have HX := Lib.hid hx
  have HM := Lib.hid hm
  have HT := Lib.hid fun (k : Nat) => tot_bd _ (l.take k) (Nat.le_refl _) (fun y hy => hm y (List.mem_of_mem_take hy))
  clear hx hm
  go_enter Tryd.func61, Tryd.ntmps61
  go_wp2_with fail
  go_loopw [3, 8] (fun v u wr => ∃ k : Nat, v = .int .i64 (tot (l.take k)) ∧ u = .int .i64 k ∧ k ≤ l.length ∧ Below w.heap.size w wr) (fun _ u _ => l.length - (intOf u).toNat)
  case atStart => exact ⟨0, rfl, rfl, by omega, Below.refl _ _⟩
  case round =>
    obtain ⟨k, rfl, rfl, hk, hB⟩ := hrel
    have HB := Lib.hid hB
    obtain ⟨tb0, tb1⟩ := HT.out k
    have hlt : (l.take k).length ≤ 1000000 := Nat.le_trans (by simp; omega) hl
    obtain ⟨tt, htt⟩ : ∃ tt, tot (l.take k) = tt := ⟨_, rfl⟩
    have HTT := Lib.hid htt
    rw [htt] at tb0 tb1 ⊢
    clear hB htt
    by_cases hkn : k < l.length
    · obtain ⟨b1, o1, rfl, l1, q1⟩ := HX.out (by omega)
      obtain ⟨x1, x2, hx⟩ : ∃ x1 x2, l[k]? = some (x1, x2) := ⟨_, _, List.getElem?_eq_getElem hkn⟩
      have hk0 : (k : Int) < (l.length : Int) := by omega
      obtain ⟨r1, r2⟩ := q1 k x1 x2 hx
      have c1 := (HB.out.cell (p := ⟨b1, o1 + k * 2, none⟩) l1).trans r1
      have c2 := (HB.out.cell (p := ⟨b1, o1 + k * 2 + 1, none⟩) l1).trans r2
      obtain ⟨m0, m1, m2⟩ := HM.out _ (List.mem_of_getElem? hx)
      simp only at m0 m1 m2
      have W1 : IntKind.i64.wrap (x2 - x1) = x2 - x1 := IntWalk.i64_in _ (by omega)
      have W2 : IntKind.i64.wrap (x2 - x1 + 1) = x2 - x1 + 1 := IntWalk.i64_in _ (by omega)
      have W3 : IntKind.i64.wrap (tt + (x2 - x1 + 1)) = tt + (x2 - x1 + 1) := IntWalk.i64_in _ (by omega)
      have HS := Lib.hid (take_succ' hx)
      clear q1 r1 r2 hx hlt tb0 tb1
      go_wp2_with fail
      go_roundw
      case rel => exact ⟨k + 1, by rw [HS.out, tot_snoc, HTT.out], by go_num, by omega, HB.out.trans ((Below.refl _ _).alloc (by have := HB.out.size; omega) _)⟩
      case measure => show l.length - ((k : Int) + 1).toNat < l.length - (k : Int).toNat; omega
    · have HKL : Hid (k = l.length) := Lib.hid (by omega)
      have hk0 : (l.length : Int) ≤ (k : Int) := by omega
      clear hlt tb0 tb1
      go_wp2_with fail
      go_ret
      exact ⟨by rw [← HTT.out, HKL.out, List.take_length]; rfl, HB.out⟩

set_option maxHeartbeats 4000000 in
set_option maxRecDepth 100000 in
theorem within_law (v : Value) (l : List S2) (m : Int) (w : World) (h : RS w.heap.size v l w) :
    Calls Tryd.prog 62 #[v, .int .i64 m] w fun e w' => e = .returned (.bool (inS l m)) ∧ Below w.heap.size w w' := by
  obtain ⟨A, ca, rfl, n1, hx⟩ := h
  have HX := Lib.hid hx
  obtain ⟨r, hr⟩ : ∃ r, inS l m = r := ⟨_, rfl⟩
  have HR := Lib.hid hr
  rw [hr]
  clear hx hr
  go_enter Tryd.func62, Tryd.ntmps62
  go_wp2_with fail
  go_loopw [9] (fun u wr => ∃ k : Nat, u = .int .i64 k ∧ k ≤ l.length ∧ (∀ j x, j < k → l[j]? = some x → ¬ (x.1 ≤ m ∧ m ≤ x.2)) ∧ Below w.heap.size w wr) (fun u _ => l.length - (intOf u).toNat)
  case atStart => exact ⟨0, rfl, by omega, fun j x hj => by omega, Below.refl _ _⟩
  case round =>
    obtain ⟨k, rfl, hk, hn, hB⟩ := hrel
    have HB := Lib.hid hB
    have HN := Lib.hid hn
    clear hB hn
    by_cases hkn : k < l.length
    · obtain ⟨b1, o1, rfl, l1, q1⟩ := HX.out (by omega)
      obtain ⟨x1, x2, hx⟩ : ∃ x1 x2, l[k]? = some (x1, x2) := ⟨_, _, List.getElem?_eq_getElem hkn⟩
      have hk0 : (k : Int) < (l.length : Int) := by omega
      obtain ⟨r1, r2⟩ := q1 k x1 x2 hx
      have c1 := (HB.out.cell (p := ⟨b1, o1 + k * 2, none⟩) l1).trans r1
      have c2 := (HB.out.cell (p := ⟨b1, o1 + k * 2 + 1, none⟩) l1).trans r2
      have HXk := Lib.hid hx
      have BA := Lib.hid (HB.out.trans ((Below.refl wr.heap.size wr).alloc (Nat.le_refl _) (.cells #[.int .i64 x1, .int .i64 x2] 49) |>.mono HB.out.size))
      clear q1 r1 r2 hx
      have no : ¬ (x1 ≤ m ∧ m ≤ x2) → ∀ j x, j < k + 1 → l[j]? = some x → ¬ (x.1 ≤ m ∧ m ≤ x.2) := fun hno j x hj hx => by
        by_cases c : j < k
        · exact HN.out j x c hx
        · obtain rfl : j = k := by omega
          rw [HXk.out] at hx
          injection hx with hx
          subst hx
          exact hno
      have NO := Lib.hid no
      clear no
      by_cases d1 : x1 ≤ m
      · by_cases d2 : m ≤ x2
        · have hd1 : decide (x1 ≤ m) = true := decide_eq_true d1
          have hd2 : decide (m ≤ x2) = true := decide_eq_true d2
          have ht : Hid (true = r) := Lib.hid (HR.out ▸ ((inS_iff l m).2 ⟨(x1, x2), List.mem_of_getElem? HXk.out, d1, d2⟩).symm)
          clear d1 d2
          go_wp2_with fail
          go_ret
          exact ⟨by rw [ht.out]; rfl, BA.out⟩
        · have hd1 : decide (x1 ≤ m) = true := decide_eq_true d1
          have hd2 : decide (m ≤ x2) = false := decide_eq_false d2
          have D := Lib.hid (NO.out (fun h => d2 h.2))
          clear d1 d2
          go_wp2_with fail
          go_roundw
          case rel => exact ⟨k + 1, by go_num, by omega, D.out, BA.out⟩
          case measure => show l.length - ((k : Int) + 1).toNat < l.length - (k : Int).toNat; omega
      · have hd1 : decide (x1 ≤ m) = false := decide_eq_false d1
        have D := Lib.hid (NO.out (fun h => d1 h.1))
        clear d1
        go_wp2_with fail
        go_roundw
        case rel => exact ⟨k + 1, by go_num, by omega, D.out, BA.out⟩
        case measure => show l.length - ((k : Int) + 1).toNat < l.length - (k : Int).toNat; omega
    · have hk0 : (l.length : Int) ≤ (k : Int) := by omega
      have ht : Hid (false = r) := Lib.hid (HR.out ▸ ((inS_false l m).2 fun x hx => by
        obtain ⟨j, hj⟩ := List.mem_iff_getElem?.1 hx
        exact HN.out j x (by have := (List.getElem?_eq_some_iff.1 hj).1; omega) hj).symm)
      go_wp2_with fail
      go_ret
      exact ⟨by rw [ht.out]; rfl, HB.out⟩

set_option maxHeartbeats 4000000 in
set_option maxRecDepth 100000 in
theorem apart_any (v : Value) (l : List S2) (w : World) (h : RS w.heap.size v l w) (hm : Mins l) (ha : ApartL l) :
    Calls Tryd.prog 63 #[v] w fun e w' => e = .returned (.bool true) ∧ Below w.heap.size w w' := by
  obtain ⟨A, ca, rfl, n1, hx⟩ := h
  have HX := Lib.hid hx
  have HM := Lib.hid hm
  have HA := Lib.hid ha
  clear hx hm ha
  go_enter Tryd.func63, Tryd.ntmps63
  go_wp2_with fail
  go_loopw [7] (fun u wr => ∃ k : Nat, u = .int .i64 k ∧ k ≤ l.length ∧ Below w.heap.size w wr) (fun u _ => l.length - (intOf u).toNat)
  case atStart => exact ⟨0, rfl, by omega, Below.refl _ _⟩
  case round =>
    obtain ⟨k, rfl, hk, hB⟩ := hrel
    have HB := Lib.hid hB
    clear hB
    by_cases hkn : k < l.length
    · obtain ⟨b1, o1, rfl, l1, q1⟩ := HX.out (by omega)
      obtain ⟨x1, x2, hx⟩ : ∃ x1 x2, l[k]? = some (x1, x2) := ⟨_, _, List.getElem?_eq_getElem hkn⟩
      have hk0 : (k : Int) < (l.length : Int) := by omega
      obtain ⟨r1, r2⟩ := q1 k x1 x2 hx
      have c1 := (HB.out.cell (p := ⟨b1, o1 + k * 2, none⟩) l1).trans r1
      have c2 := (HB.out.cell (p := ⟨b1, o1 + k * 2 + 1, none⟩) l1).trans r2
      obtain ⟨a1, a2⟩ := HA.out k _ hx
      simp only at a1 a2
      have BA := Lib.hid (HB.out.trans ((Below.refl wr.heap.size wr).alloc (Nat.le_refl _) (.cells #[.int .i64 x1, .int .i64 x2] 49) |>.mono HB.out.size))
      have hlw : b1 < wr.heap.size := Nat.lt_of_lt_of_le l1 HB.out.size
      have hd1 : decide (x2 < x1) = false := decide_eq_false (by omega)
      rcases k with _ | k
      · have hd2 : decide ((0 : Int) < ((0 : Nat) : Int)) = false := by simp
        simp only [Nat.zero_mul, Nat.add_zero] at c1 c2
        clear q1 r1 r2 hx a1 a2
        go_wp2_with fail
        go_quiet (fail)
        go_wp2_with fail
        go_roundw
        case rel => exact ⟨1, by go_num, by omega, below_drewN BA.out _⟩
        case measure => show l.length - ((0 : Nat) + 1 : Int).toNat < l.length - ((0 : Nat) : Int).toNat; omega
      · obtain ⟨⟨y1, y2⟩, hy, a3⟩ := a2 (by omega)
        rw [show k + 1 - 1 = k by omega] at hy
        simp only at a3
        obtain ⟨r3, r4⟩ := q1 k y1 y2 hy
        have c4 := (HB.out.cell (p := ⟨b1, o1 + k * 2 + 1, none⟩) l1).trans r4
        have c4' : (wr.alloc (.cells #[.int .i64 x1, .int .i64 x2] 49)).cell? ⟨b1, o1 + k * 2 + 1, none⟩ = some (.int .i64 y2) := (World.cell?_alloc_lt _ _ _ hlw).trans c4
        obtain ⟨e0, e1, e2⟩ := HM.out _ (List.mem_of_getElem? hy)
        simp only at e0 e1 e2
        have hd2 : decide ((0 : Int) < ((k + 1 : Nat) : Int)) = true := by simp <;> omega
        have W1 : IntKind.i64.wrap (((k + 1 : Nat) : Int) - 1) = (k : Int) := (IntWalk.i64_in _ (by omega)).trans (by omega)
        have W2 : IntKind.i64.wrap (y2 + 2) = y2 + 2 := IntWalk.i64_in _ (by omega)
        have hd3 : decide (x1 < y2 + 2) = false := decide_eq_false (by omega)
        have hkl : (k : Int) < (l.length : Int) := by omega
        clear q1 r1 r2 r3 r4 hx hy a1 a2 a3 e0 e1 e2
        go_wp2_with fail
        go_quiet (fail)
        go_wp2_with fail
        go_roundw
        case rel => exact ⟨k + 1 + 1, by go_num, by omega, below_drewN BA.out _⟩
        case measure => show l.length - (((k + 1 : Nat) : Int) + 1).toNat < l.length - ((k + 1 : Nat) : Int).toNat; omega
    · have hk0 : (l.length : Int) ≤ (k : Int) := by omega
      go_wp2_with fail
      go_ret
      exact ⟨rfl, HB.out⟩
end Go.Proofs.YtlhgpeelenelbaaDoor
