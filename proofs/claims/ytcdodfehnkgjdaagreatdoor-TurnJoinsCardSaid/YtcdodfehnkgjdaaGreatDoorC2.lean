/- Contract of lots: what a set is made of, as a slice of interface values. -/
import Derived.Test.YtcdodfehnkgjdaaGreatDoorC1
import Derived.OwnWalk
namespace Go.Proofs.YtcdodfehnkgjdaaGreatDoor
open Go.RowKit

def lotT (t : T3) : Value := .iface 85 (tv t.1 t.2.1 t.2.2)
def lotS (s : S2) : Value := .iface 121 (sv2 s.1 s.2)
def lotsF (ts : List T3) (ss : List S2) : List Value := ts.map lotT ++ ss.map lotS

theorem infoLot : (Tryz.prog.info? 78).map (fun i => (i.zero, i.size, i.bytes)) = some (some .nilIface, 1, 16) := by kernel_rfl

theorem take_map_snoc {α β : Type} (g : α → β) (l : List α) (k : Nat) (x : α) (h : l[k]? = some x) : (l.map g).take (k + 1) = (l.map g).take k ++ [g x] := by
  obtain ⟨hk, rfl⟩ := List.getElem?_eq_some_iff.1 h
  rw [List.take_succ_eq_append_getElem (by simpa using hk), List.getElem_map]
theorem ownsRow_base {w : World} {base : Nat} {e : TypeId} {size n : Nat} {v : Value} {xs : List Value} (h : w.ownsRow base e size v n xs) {g : Nat} (hg : v.ownBlock = some g) : base ≤ g := by
  rcases h.2 with ⟨rfl, _⟩ | ⟨g', cap, cur, rfl, hb, _⟩
  · cases hg
  · cases hg; exact hb
theorem cell_lit {W : World} {b : Nat} {x : Value} {t : TypeId} (hb : b = W.heap.size) : ∀ (j : Nat) (u : Value), [x][j]? = some u → (W.alloc (.cells #[x] t)).cell? ((⟨b, 0, none⟩ : Addr).add j) = some u := by
  subst hb
  intro j u hj
  cases j with
  | zero => simp [go_sem, Addr.add] at hj ⊢; exact hj
  | succ j => simp at hj

def LotsPost (ts : List T3) (ss : List S2) (w : World) (e : Ending) (w' : World) : Prop :=
  ∃ v, e = .returned v ∧ w'.ownsRow (w.heap.size + 1) 78 1 v (ts.length + ss.length) (lotsF ts ss) ∧ Below w.heap.size w w'

set_option maxHeartbeats 2000000 in
set_option maxRecDepth 1000000 in
theorem lots_any (vt vs : Value) (ts : List T3) (ss : List S2) (w : World) (ht : RT w.heap.size vt ts w) (hs : RS w.heap.size vs ss w) (h1 : ts.length ≤ 24) (h2 : ss.length ≤ 40) :
    Calls Tryz.prog 44 #[.agg #[vt, vs]] w (LotsPost ts ss w) := by
  obtain ⟨i0, hi, hz0, hz1, hz2⟩ := info_parts infoLot
  obtain ⟨A, ca, rfl, n1, hx⟩ := ht
  obtain ⟨A', ca', rfl, n2, hy0⟩ := hs
  have HX := Lib.hid hx
  have HX' := Lib.hid hy0
  clear hx hy0
  go_enter Tryz.func44, Tryz.ntmps44
  go_wp2_with (at_make; refine wpList_make_own _ rfl _ _ 79 rfl (w.heap.size + 1) 78 i0 .nilIface 1 Tryz.underlying79 hi hz0 hz1 _ _ _ (ts.length + ss.length) rfl rfl (by omega) (by rw [hz2]; omega) (by unfold maxLen; omega) (by simp) ?_; intro w0 hown0 hgrow0; have BB0 := (Below.refl (w.heap.size + 1) (w.alloc (.cells #[.slice A ts.length ca, .slice A' ss.length ca'] 25))).grown hgrow0 (by simp) (fun k h => by cases h); have q0 := (BB0.cell (p := ⟨w.heap.size, 0, none⟩) (by simp)).trans (show _ = some (Value.slice A ts.length ca) by simp [go_sem]); have q1 := (BB0.cell (p := ⟨w.heap.size, 1, none⟩) (by simp)).trans (show _ = some (Value.slice A' ss.length ca') by simp [go_sem]); have z0 := BB0.size; have B0 := Lib.hid (((Below.refl w.heap.size w).alloc (Nat.le_refl _) (.cells #[.slice A ts.length ca, .slice A' ss.length ca'] 25)).trans (BB0.mono (by omega))); have HO0 := Lib.hid hown0; clear hown0 hgrow0 BB0)
  rw [World.size_alloc] at HO0
  have Z0 : w.heap.size < w0.heap.size := by simp at z0; omega
  clear z0
  go_loopw [3, 19] (fun s v wr => ∃ k : Nat, v = .int .i64 k ∧ k ≤ ts.length ∧ wr.ownsRow (w.heap.size + 1) 78 1 s k ((ts.map lotT).take k) ∧ wr.cell? ⟨w.heap.size, 1, none⟩ = some (.slice A' ss.length ca') ∧ w.heap.size < wr.heap.size ∧ Below w.heap.size w wr) (fun _ v _ => ts.length - (intOf v).toNat)
  case atStart => exact ⟨0, rfl, by omega, HO0.out, q1, Z0, B0.out⟩
  case round =>
    obtain ⟨k, rfl, hk, hown, hcell, hlt, hB⟩ := hrel
    have HB := Lib.hid hB
    have HW := Lib.hid hown
    clear hB hown q0 q1
    have HL := Lib.hid fun W (hb : Below (w.heap.size + 1) wr W) => (hb.cell (p := ⟨w.heap.size, 1, none⟩) (by simp)).trans hcell
    by_cases hkl : k < ts.length
    · obtain ⟨b, o, eA, hbB, hcs⟩ := HX.out (by omega)
      subst eA
      have hk0 : (k : Int) < (ts.length : Int) := by omega
      obtain ⟨⟨p, f, l⟩, ht⟩ : ∃ t, ts[k]? = some t := ⟨_, List.getElem?_eq_getElem hkl⟩
      obtain ⟨c0, c1, c2'⟩ := hcs k p f l ht
      have d0 := (HB.out.cell (p := ⟨b, o + k * 3, none⟩) hbB).trans c0
      have d1 := (HB.out.cell (p := ⟨b, o + k * 3 + 1, none⟩) hbB).trans c1
      have d2 := (HB.out.cell (p := ⟨b, o + k * 3 + 2, none⟩) hbB).trans c2'
      have HT := Lib.hid ht
      clear c0 c1 c2' ht hcs
      go_wp2_with (at_builtin; refine wpList_append_own _ rfl _ _ 79 rfl (w.heap.size + 1) 78 i0 .nilIface 1 16 Tryz.underlying79 hi hz0 hz1 hz2 rfl (by decide) _ k _ rfl ((HW.out.alloc _).alloc _) ⟨wr.heap.size + 1, 0, none⟩ 1 1 [lotT (p, f, l)] rfl rfl ?c1 ?c2 ?c3 ?c4 ?c5 ?_)
      case c1 => exact cell_lit (by simp)
      case c2 => intro u hu; simp [lotT] at hu; subst hu; rfl
      case c3 => unfold maxLen; omega
      case c4 => omega
      case c5 => simp; omega
      intro v' w1 hown1 hgrow1 _
      have BB1 := (((Below.refl (w.heap.size + 1) wr).alloc (by omega) (.cells #[.int .i64 p, .int .i64 f, .int .i64 l] 42)).alloc (by simp; omega) _).grown hgrow1 (by simp; omega) (fun g e => ownsRow_base HW.out e)
      have HO1 := Lib.hid hown1
      have HB1 := Lib.hid BB1
      have z1 := BB1.size
      clear hown1 hgrow1 BB1
      go_wp2_with fail
      go_roundw
      case rel => exact ⟨k + 1, by go_num, by omega, by rw [take_map_snoc lotT ts k _ HT.out]; exact HO1.out, HL.out _ HB1.out, by omega, HB.out.trans (HB1.out.mono (by omega))⟩
      case measure => show ts.length - ((k : Int) + 1).toNat < ts.length - (k : Int).toNat; omega
    · have hk0 : (ts.length : Int) ≤ (k : Int) := by omega
      have hkE : k = ts.length := by omega
      have HW2 : Hid (wr.ownsRow (w.heap.size + 1) 78 1 u3 ts.length (ts.map lotT)) := Lib.hid (by have := HW.out; rw [hkE, List.take_of_length_le (by simp)] at this; exact this)
      clear hkE
      go_wp2_with fail
      go_loopw [3, 32] (fun s v wr => ∃ k : Nat, v = .int .i64 k ∧ k ≤ ss.length ∧ wr.ownsRow (w.heap.size + 1) 78 1 s (ts.length + k) (ts.map lotT ++ (ss.map lotS).take k) ∧ w.heap.size < wr.heap.size ∧ Below w.heap.size w wr) (fun _ v _ => ss.length - (intOf v).toNat)
      case atStart => exact ⟨0, rfl, by omega, by simpa using HW2.out, hlt, HB.out⟩
      case round =>
        obtain ⟨k2, rfl, hk2, hown2, hlt2, hB2⟩ := hrel
        have HB2 := Lib.hid hB2
        have HW3 := Lib.hid hown2
        clear hB2 hown2
        by_cases hkl2 : k2 < ss.length
        · obtain ⟨b2, o2, eA2, hbB2, hcs2⟩ := HX'.out (by omega)
          subst eA2
          have hk3 : (k2 : Int) < (ss.length : Int) := by omega
          obtain ⟨⟨lo, hi'⟩, ht2⟩ : ∃ t, ss[k2]? = some t := ⟨_, List.getElem?_eq_getElem hkl2⟩
          obtain ⟨c0, c1⟩ := hcs2 k2 lo hi' ht2
          have d0 := (HB2.out.cell (p := ⟨b2, o2 + k2 * 2, none⟩) hbB2).trans c0
          have d1 := (HB2.out.cell (p := ⟨b2, o2 + k2 * 2 + 1, none⟩) hbB2).trans c1
          have HT2 := Lib.hid ht2
          clear c0 c1 ht2 hcs2
          go_wp2_with (at_builtin; refine wpList_append_own _ rfl _ _ 79 rfl (w.heap.size + 1) 78 i0 .nilIface 1 16 Tryz.underlying79 hi hz0 hz1 hz2 rfl (by decide) _ (ts.length + k2) _ rfl ((HW3.out.alloc _).alloc _) ⟨wr.heap.size + 1, 0, none⟩ 1 1 [lotS (lo, hi')] rfl rfl ?c1 ?c2 ?c3 ?c4 ?c5 ?_)
          case c1 => exact cell_lit (by simp)
          case c2 => intro u hu; simp [lotS] at hu; subst hu; rfl
          case c3 => unfold maxLen; omega
          case c4 => omega
          case c5 => simp; omega
          intro v' w1 hown1 hgrow1 _
          have BB1 := (((Below.refl (w.heap.size + 1) wr).alloc (by omega) (.cells #[.int .i64 lo, .int .i64 hi'] 45)).alloc (by simp; omega) _).grown hgrow1 (by simp; omega) (fun g e => ownsRow_base HW3.out e)
          have HO1 := Lib.hid hown1
          have HB1 := Lib.hid BB1
          have z1 := BB1.size
          clear hown1 hgrow1 BB1
          go_wp2_with fail
          go_roundw
          case rel => exact ⟨k2 + 1, by go_num, by omega, by rw [take_map_snoc lotS ss k2 _ HT2.out]; have := HO1.out; simpa [Nat.add_assoc] using this, by omega, HB2.out.trans (HB1.out.mono (by omega))⟩
          case measure => show ss.length - ((k2 : Int) + 1).toNat < ss.length - (k2 : Int).toNat; omega
        · have hk3 : (ss.length : Int) ≤ (k2 : Int) := by omega
          have hkE : k2 = ss.length := by omega
          have HF : Hid (wr.ownsRow (w.heap.size + 1) 78 1 u3 (ts.length + ss.length) (lotsF ts ss)) := Lib.hid (by have := HW3.out; rw [hkE, List.take_of_length_le (by simp)] at this; exact this)
          clear hkE
          go_wp2_with fail
          go_ret
          exact ⟨_, rfl, HF.out, HB2.out⟩
end Go.Proofs.YtcdodfehnkgjdaaGreatDoor
