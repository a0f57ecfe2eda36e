/- Contract of sweepOf: a lane for each lot, none of which keeps a run yet. -/
import Derived.Test.YtcdodfehnkgjdaaGreatDoorD5
import Derived.Test.YtcdodfehnkgjdaaGreatDoorC4
import Derived.OwnWalk
namespace Go.Proofs.YtcdodfehnkgjdaaGreatDoor
open Go.RowKit

def lotOfT (t : T3) : Lot := ⟨true, t.1, t.2.1, t.2.2⟩
def lotOfS (s : S2) : Lot := ⟨false, s.1, s.2, 0⟩
def lotsOf (ts : List T3) (ss : List S2) : List Lot := ts.map lotOfT ++ ss.map lotOfS
theorem lotsF_val (ts : List T3) (ss : List S2) : lotsF ts ss = (lotsOf ts ss).map Lot.val := by
  simp only [lotsF, lotsOf, List.map_append, List.map_map]
  congr 1
theorem lotsOf_ok {ts : List T3} {ss : List S2} (h : AllOk ts ss) : ∀ x ∈ lotsOf ts ss, x.ok := by
  intro x hx
  rcases List.mem_append.1 hx with hx | hx
  · obtain ⟨t, ht, rfl⟩ := List.mem_map.1 hx; exact h.1 t ht
  · obtain ⟨s, hs, rfl⟩ := List.mem_map.1 hx; exact h.2 s hs

theorem infoPtr : (Tryz.prog.info? 134).map (fun i => (i.zero, i.size, i.bytes)) = some (some (.pointer none), 1, 8) := by kernel_rfl

/-- Lanes that have just been made. -/
def Fresh (base : Nat) (bs : List Nat) (xs : List Lot) (w : World) : Prop :=
  bs.length = xs.length ∧ bs.Nodup ∧ (∀ b ∈ bs, base ≤ b ∧ b < w.heap.size) ∧ ∀ (k b : Nat) (x : Lot), bs[k]? = some b → xs[k]? = some x → Lane b x.val (-1) (-1) w
theorem Fresh.lanes {base : Nat} {bs : List Nat} {xs : List Lot} {w : World} (h : Fresh base bs xs w) : Lanes bs xs 0 w :=
  ⟨h.1, h.2.1, fun k b x hb hx => ⟨-1, -1, h.2.2.2 k b x hb hx, .inl (by omega)⟩⟩
theorem Fresh.same {base : Nat} {bs : List Nat} {xs : List Lot} {w w' : World} (h : Fresh base bs xs w) (hs : w.heap.size ≤ w'.heap.size) (hb : ∀ b ∈ bs, w'.heap[b]? = w.heap[b]?) : Fresh base bs xs w' :=
  ⟨h.1, h.2.1, fun b hm => ⟨(h.2.2.1 b hm).1, by have := (h.2.2.1 b hm).2; omega⟩, fun k b x h1 h2 => (h.2.2.2 k b x h1 h2).same (hb b (List.mem_of_getElem? h1))⟩
theorem Fresh.snoc {base : Nat} {bs : List Nat} {xs : List Lot} {w : World} {x : Lot} {b : Nat} (h : Fresh base bs xs w) (hb : b ∉ bs) (hbase : base ≤ b) (hl : Lane b x.val (-1) (-1) w) : Fresh base (bs ++ [b]) (xs ++ [x]) w := by
  refine ⟨by simp [h.1], ?_, ?_, ?_⟩
  · refine List.nodup_append.2 ⟨h.2.1, by simp, ?_⟩
    intro a ha c hc
    simp at hc
    subst hc
    intro e
    subst e
    exact hb ha
  · intro c hc
    rcases List.mem_append.1 hc with hc | hc
    · exact h.2.2.1 c hc
    · simp at hc; subst hc; exact ⟨hbase, hl.lt⟩
  · intro k c y hc hy
    by_cases hk : k < bs.length
    · rw [List.getElem?_append_left hk] at hc
      rw [List.getElem?_append_left (by have := h.1; omega)] at hy
      exact h.2.2.2 k c y hc hy
    · rw [List.getElem?_append_right (by omega)] at hc
      rw [List.getElem?_append_right (by have := h.1; omega)] at hy
      have hk0 : k - bs.length = 0 := by
        rcases Nat.eq_zero_or_pos (k - bs.length) with e | e
        · exact e
        · rw [List.getElem?_eq_none (by simp; omega)] at hc; cases hc
      rw [← h.1] at hy
      rw [hk0] at hc hy
      simp at hc hy
      subst hc hy
      exact hl

def ptrV (b : Nat) : Value := .pointer (some ⟨b, 0, none⟩)
/-- What sweepOf gives. -/
def SweepPost (ts : List T3) (ss : List S2) (w : World) (e : Ending) (w' : World) : Prop :=
  ∃ bs A c, e = .returned (.agg #[.slice A bs.length c]) ∧ Fresh w.heap.size bs (lotsOf ts ss) w' ∧ Ptrs bs A w' ∧ Below w.heap.size w w' ∧ ∀ g, A = some ⟨g, 0, none⟩ → w.heap.size ≤ g ∧ g < w'.heap.size

set_option maxHeartbeats 4000000 in
set_option maxRecDepth 1000000 in
theorem sweepOf_any (v : Value) (ts : List T3) (ss : List S2) (w : World) (h : RM w.heap.size v ts ss w) (h1 : ts.length ≤ 24) (h2 : ss.length ≤ 40) :
    Calls Tryz.prog 74 #[v] w (SweepPost ts ss w) := by
  obtain ⟨i0, hi, hz0, hz1, hz2⟩ := info_parts infoPtr
  obtain ⟨A, m, ca, A', m', ca', rfl, r1, r2⟩ := h
  have L : Hid (∀ W, Below w.heap.size w W → w.heap.size ≤ W.heap.size → Calls Tryz.prog 44 #[.agg #[.slice A m ca, .slice A' m' ca']] W (LotsPost ts ss W)) :=
    Lib.hid fun W hb hs => lots_any _ _ ts ss W (r1.up hs hb) (r2.up hs hb) h1 h2
  clear r1 r2
  go_enter Tryz.func74, Tryz.ntmps74
  go_wp2_with fail
  have B3 := ((((Below.refl w.heap.size w).alloc (Nat.le_refl _) (.cells #[.slice A m ca, .slice A' m' ca'] 25)).alloc (by simp) (.cells #[.slice none 0 0] 124))).alloc (by simp; omega) (.cells #[.slice none 0 0] 124)
  have B3' := Lib.hid B3
  clear B3
  refine (L.out _ B3'.out B3'.out.size).mono ?_
  rintro e w1 ⟨lv, rfl, hown, hb1⟩
  have z1 : w.heap.size + 2 < w1.heap.size := by have := hb1.size; simp at this; omega
  have HR := Lib.hid hown
  have HB1 := Lib.hid (B3'.out.trans (hb1.mono (by simp; omega)))
  have k1 : w1.cell? ⟨w.heap.size + 1, 0, none⟩ = some (.slice none 0 0) := (hb1.cell (p := ⟨w.heap.size + 1, 0, none⟩) (by simp)).trans (by simp [go_sem])
  have k2 : w1.cell? ⟨w.heap.size + 2, 0, none⟩ = some (.slice none 0 0) := (hb1.cell (p := ⟨w.heap.size + 2, 0, none⟩) (by simp)).trans (by simp [go_sem])
  have f1 : w1.frozen? ⟨w.heap.size + 1, 0, none⟩ = false := (hb1.frozen (p := ⟨w.heap.size + 1, 0, none⟩) (by simp)).trans (by simp [go_sem])
  have f2 : w1.frozen? ⟨w.heap.size + 2, 0, none⟩ = false := (hb1.frozen (p := ⟨w.heap.size + 2, 0, none⟩) (by simp)).trans (by simp [go_sem])
  have HK1 := Lib.hid k1
  have HK2 := Lib.hid k2
  have HF1 := Lib.hid f1
  have HF2 := Lib.hid f2
  -- the lots' row, whatever its value
  have hrow : ∃ Al cl, lv = .slice Al (ts.length + ss.length) cl ∧ (0 < ts.length + ss.length → ∃ g, Al = some ⟨g, 0, none⟩ ∧ w.heap.size + 3 < g ∧ ∀ j u, ((lotsOf ts ss).map Lot.val)[j]? = some u → w1.cell? ⟨g, j, none⟩ = some u) := by
    rcases hown.2 with ⟨rfl, h0⟩ | ⟨g, cap, cur, rfl, hg, _⟩
    · exact ⟨none, 0, by rw [h0], fun h => by omega⟩
    · refine ⟨_, cap, rfl, fun _ => ⟨g, rfl, by simp at hg; omega, fun j u hj => ?_⟩⟩
      have hjl : j < ts.length + ss.length := by have := (List.getElem?_eq_some_iff.1 hj).1; simpa [lotsOf] using this
      rw [World.ownsRow.cellAt hown j (by omega), lotsF_val]
      exact hj
  obtain ⟨Al, cl, rfl, hcl⟩ := hrow
  have HCL := Lib.hid hcl
  clear hown hb1 k1 k2 f1 f2 hcl HR
  have HN : Hid ((lotsOf ts ss).length = ts.length + ss.length) := Lib.hid (by simp [lotsOf])
  generalize hxs : lotsOf ts ss = xs at *
  have HXS := Lib.hid hxs
  clear hxs
  go_wp2_with fail
  go_loopw [9] (fun u wr => ∃ (k : Nat) (bs : List Nat) (v : Value), u = .int .i64 k ∧ k ≤ ts.length + ss.length ∧ wr.cell? ⟨w.heap.size + 2, 0, none⟩ = some v ∧ wr.frozen? ⟨w.heap.size + 2, 0, none⟩ = false ∧ wr.ownsRow w1.heap.size 134 1 v k (bs.map ptrV) ∧ Fresh w1.heap.size bs (xs.take k) wr ∧ GrownL [w.heap.size + 2] w1 wr) (fun u _ => ts.length + ss.length - (intOf u).toNat)
  case atStart => exact ⟨0, [], _, rfl, by omega, HK2.out, HF2.out, World.ownsRow_nil _ _ _ _, ⟨rfl, List.nodup_nil, by simp, by simp⟩, GrownL.refl _ _⟩
  case round =>
    obtain ⟨k, bs, v, rfl, hk, hv, hvf, hrow, hfr, hgr⟩ := hrel
    have HRow := Lib.hid hrow
    have HFr := Lib.hid hfr
    have HG := Lib.hid hgr
    have hzr := hgr.size
    clear hrow hfr hgr
    by_cases hkn : k < ts.length + ss.length
    · obtain ⟨g, rfl, hg, hcs⟩ := HCL.out (by omega)
      have hk0 : (k : Int) < (ts.length : Int) + (ss.length : Int) := by omega
      obtain ⟨x, hx⟩ : ∃ x, xs[k]? = some x := ⟨_, List.getElem?_eq_getElem (by have := HN.out; omega)⟩
      have hcell := HG.out.cell (hcs k x.val (by rw [List.getElem?_map, hx]; rfl)) (by simp; omega)
      have HX := Lib.hid hx
      obtain ⟨ty, y, hvy⟩ : ∃ ty y, x.val = .iface ty y := by
        unfold Lot.val; split
        · exact ⟨_, _, rfl⟩
        · exact ⟨_, _, rfl⟩
      rw [hvy] at hcell
      have HV := Lib.hid hvy
      clear hx hcs hvy
      go_wp2_with (at_builtin; refine wpList_append_own _ rfl _ _ 122 rfl w1.heap.size 134 i0 (.pointer none) 1 8 Tryz.underlying122 hi hz0 hz1 hz2 rfl (by decide) _ k _ rfl ((HRow.out.alloc _).alloc _) ⟨wr.heap.size + 1, 0, none⟩ 1 1 [ptrV wr.heap.size] rfl rfl ?c1 ?c2 ?c3 ?c4 ?c5 ?_)
      case c1 => exact cell_lit (by simp)
      case c2 => intro u hu; simp [ptrV] at hu; subst hu; rfl
      case c3 => unfold maxLen; omega
      case c4 => omega
      case c5 => simp; omega
      intro v' w4 hown' hgrow _
      obtain ⟨g', cap', hv'⟩ : ∃ g' cap', v' = .slice (some ⟨g', 0, none⟩) (k + 1) cap' := by
        rcases hown'.2 with ⟨_, h0⟩ | ⟨g', cap', cur, e, _⟩
        · omega
        · exact ⟨g', cap', e⟩
      have hg' : w1.heap.size ≤ g' := ownsRow_base hown' (by rw [hv']; rfl)
      have hrb : ∀ r, v.ownBlock = some r → w1.heap.size ≤ r ∧ r < wr.heap.size ∧ r ∉ bs := by
        intro r hr
        have hb := ownsRow_base HRow.out hr
        rcases HRow.out.2 with ⟨rfl, _⟩ | ⟨r', cap, cur, rfl, _, hblk, _⟩
        · cases hr
        · obtain rfl : r' = r := by simpa [Value.ownBlock] using hr
          refine ⟨hb, (Array.getElem?_eq_some_iff.1 hblk).1, fun hm => ?_⟩
          obtain ⟨j, hj⟩ := List.mem_iff_getElem?.1 hm
          have hjl := (List.getElem?_eq_some_iff.1 hj).1
          have hf := HFr.out
          have hl := hf.2.2.2 j r' ((xs.take k)[j]'(by have := hf.1; omega)) hj (List.getElem?_eq_getElem (by have := hf.1; omega))
          unfold Lane at hl
          rw [hblk] at hl
          simp at hl
      have hT2 : ((wr.alloc (.cells #[.iface ty y, .int .i64 (-1), .int .i64 (-1)] 136)).alloc (.cells #[.pointer (some ⟨wr.heap.size, 0, none⟩)] 134)).heap.size = wr.heap.size + 2 := by simp
      have hold : ∀ j, j < wr.heap.size → v.ownBlock ≠ some j → w4.heap[j]? = wr.heap[j]? := fun j hj hne =>
        (hgrow.block j (by rw [hT2]; omega) (fun e => hne e.symm)).trans ((Below.heap_alloc _ _ j (by simp; omega)).trans (Below.heap_alloc _ _ j hj))
      have hTn : v.ownBlock ≠ some (w.heap.size + 2) := fun e => by have := (hrb _ e).1; omega
      have hTb := hold (w.heap.size + 2) (by omega) hTn
      have q4 : w4.cell? ⟨w.heap.size + 2, 0, none⟩ = some v := (World.cell?_of_block (a := ⟨w.heap.size + 2, 0, none⟩) hTb).trans hv
      have qf : w4.frozen? ⟨w.heap.size + 2, 0, none⟩ = false := (World.frozen?_of_block (a := ⟨w.heap.size + 2, 0, none⟩) hTb).trans hvf
      have hlane : Lane wr.heap.size x.val (-1) (-1) w4 := by
        have e0 : Lane wr.heap.size x.val (-1) (-1) (wr.alloc (.cells #[.iface ty y, .int .i64 (-1), .int .i64 (-1)] 136)) := by
          unfold Lane; rw [HV.out]; exact Array.getElem?_push_size
        refine e0.same ((hgrow.block wr.heap.size (by rw [hT2]; omega) (fun e => ?_)).trans (Below.heap_alloc _ _ _ (by simp)))
        have := (hrb _ e.symm).2.1; omega
      have hfr4 : Fresh w1.heap.size bs (xs.take k) w4 := HFr.out.same (by have := hgrow.size; rw [hT2] at this; omega) (fun b hb => hold b (HFr.out.2.2.1 b hb).2 (fun e => (hrb b e).2.2 hb))
      have hnb : wr.heap.size ∉ bs := fun hm => by have := (HFr.out.2.2.1 _ hm).2; omega
      have hfr5 := hfr4.snoc (x := x) hnb hzr hlane
      have hg4 : GrownL [w.heap.size + 2] w1 w4 := ⟨hgrow.os.trans HG.out.os, hgrow.tape.trans HG.out.tape, hgrow.output.trans HG.out.output, by have := hgrow.size; rw [hT2] at this; omega, fun j hj hn => (hold j (by omega) (fun e => by have := (hrb j e).1; omega)).trans (HG.out.block j hj hn)⟩
      subst hv'
      have HO := Lib.hid hown'
      have HF5 := Lib.hid hfr5
      have HG4 := Lib.hid hg4
      have hz4 := hg4.size
      clear hown' hgrow hold hlane hfr4 hfr5 hg4 hrb hT2
      have q5 := World.cell?_setCell_same' w4 ⟨w.heap.size + 2, 0, none⟩ (.slice (some ⟨g', 0, none⟩) (k + 1) cap') (by rw [q4]; rfl)
      have Q5 := Lib.hid q5
      have QF := Lib.hid qf
      clear q5
      go_wp2_with fail
      have hkept := HO.out.kept (w' := w4.setCell ⟨w.heap.size + 2, 0, none⟩ (.slice (some ⟨g', 0, none⟩) (k + 1) cap')) (grown_set (i := 0) (b := w.heap.size + 2) (grown_of_below (Below.refl _ _)) _) (.inr (fun e => by have := Option.some.inj e; simp at this; omega))
      have HK := Lib.hid hkept
      clear hkept
      go_roundw
      case rel =>
        refine ⟨k + 1, bs ++ [wr.heap.size], _, by go_num, by omega, Q5.out, ?_, ?_, ?_, ?_⟩
        · rw [World.frozen?_setCell]; exact QF.out
        · have := HK.out; rw [List.map_append]; exact this
        · have e : xs.take (k + 1) = xs.take k ++ [x] := by
            obtain ⟨h1, rfl⟩ := List.getElem?_eq_some_iff.1 HX.out
            rw [List.take_succ_eq_append_getElem h1]
          rw [e]
          exact HF5.out.same (by simp [go_sem]) (fun b hb => Below.heap_setCell _ ⟨w.heap.size + 2, 0, none⟩ _ _ (fun e => by have := (HF5.out.2.2.1 b hb).1; have e' : b = w.heap.size + 2 := e; omega))
        · exact HG4.out.trans ⟨rfl, rfl, rfl, by simp [go_sem], fun j hj hn => Below.heap_setCell _ ⟨w.heap.size + 2, 0, none⟩ _ _ (fun e => hn (by have e' : j = w.heap.size + 2 := e; simp [e']))⟩
      case measure => show ts.length + ss.length - ((k : Int) + 1).toNat < ts.length + ss.length - (k : Int).toNat; omega
    · have hk0 : (ts.length : Int) + (ss.length : Int) ≤ (k : Int) := by omega
      have hkN : k = ts.length + ss.length := by omega
      have hbk : bs.length = k := by have := HFr.out.1; have := HN.out; simp at *; omega
      obtain ⟨Av, cv, hve, hpt, hpg⟩ : ∃ Av cv, v = .slice Av k cv ∧ (0 < k → ∃ g, Av = some ⟨g, 0, none⟩ ∧ w1.heap.size ≤ g ∧ g ∉ bs ∧ ∀ j b, bs[j]? = some b → wr.cell? ⟨g, j, none⟩ = some (ptrV b)) ∧ ∀ g, Av = some ⟨g, 0, none⟩ → w1.heap.size ≤ g ∧ g < wr.heap.size := by
        rcases HRow.out.2 with ⟨rfl, h0⟩ | ⟨g, cap, cur, rfl, hg, hblk, _⟩
        · exact ⟨none, 0, by rw [h0], (fun h => by omega), (fun g e => by cases e)⟩
        · refine ⟨_, cap, rfl, fun _ => ⟨g, rfl, hg, fun hm => ?_, fun j b hj => ?_⟩, fun g' e => ?_⟩
          rotate_left 2
          · have e' : g = g' := by simpa using e
            subst e'
            exact ⟨hg, (Array.getElem?_eq_some_iff.1 hblk).1⟩
          · obtain ⟨j, hj⟩ := List.mem_iff_getElem?.1 hm
            have hjl := (List.getElem?_eq_some_iff.1 hj).1
            have hf := HFr.out
            have hl := hf.2.2.2 j g ((xs.take k)[j]'(by have := hf.1; omega)) hj (List.getElem?_eq_getElem (by have := hf.1; omega))
            unfold Lane at hl
            rw [hblk] at hl
            simp at hl
          · have hjl := (List.getElem?_eq_some_iff.1 hj).1
            rw [World.ownsRow.cellAt HRow.out j (by omega), List.getElem?_map, hj]; rfl
      subst hve
      have hres : wr.cell? ⟨w.heap.size + 1, 0, none⟩ = some (.slice none 0 0) := HG.out.cell HK1.out (by simp)
      have hresf : wr.frozen? ⟨w.heap.size + 1, 0, none⟩ = false := (World.frozen?_of_block (a := ⟨w.heap.size + 1, 0, none⟩) (HG.out.block _ (by show w.heap.size + 1 < _; omega) (by simp))).trans HF1.out
      have q7 := World.cell?_setCell_same' wr ⟨w.heap.size + 1, 0, none⟩ (.slice Av k cv) (by rw [hres]; rfl)
      have HE : Hid (xs.take k = xs) := Lib.hid (List.take_of_length_le (by have := HN.out; omega))
      have HPt := Lib.hid hpt
      have HPg := Lib.hid hpg
      have HBK := Lib.hid hbk
      have HBw := Lib.hid (HB1.out.trans (HG.out.below (B := w.heap.size) (by intro b hb; simp at hb; omega) (by omega)))
      clear hpt hbk hkN hpg
      go_wp2_with fail
      refine bodyPost_ret (v := .agg #[.slice Av k cv]) (by simp [results, Tryz.results74, go_sem, q7]) rfl ⟨bs, Av, cv, by rw [HBK.out], ?_, ?_, ?_, ?_⟩
      · have hf := HFr.out
        rw [HE.out] at hf
        have hf2 : Fresh w.heap.size bs xs wr := ⟨hf.1, hf.2.1, fun b hb => ⟨by have := (hf.2.2.1 b hb).1; omega, (hf.2.2.1 b hb).2⟩, hf.2.2.2⟩
        rw [HXS.out]
        exact hf2.same (by simp [go_sem]) (fun b hb => Below.heap_setCell _ ⟨w.heap.size + 1, 0, none⟩ _ _ (fun e => by have := (hf.2.2.1 b hb).1; have e' : b = w.heap.size + 1 := e; omega))
      · intro hp
        obtain ⟨g, e, hg, hn, hc⟩ := HPt.out (by have := HBK.out; omega)
        exact ⟨g, e, hn, fun j b hj => (World.cell?_setCell_other wr ⟨w.heap.size + 1, 0, none⟩ ⟨g, j, none⟩ _ (fun q => by have := congrArg Addr.block q; simp at this; omega)).trans (hc j b hj)⟩
      · exact HBw.out.setCell (p := ⟨w.heap.size + 1, 0, none⟩) (Nat.le_succ _) _
      · intro g e
        have := HPg.out g e
        exact ⟨by omega, by simpa [go_sem] using this.2⟩
end Go.Proofs.YtcdodfehnkgjdaaGreatDoor
