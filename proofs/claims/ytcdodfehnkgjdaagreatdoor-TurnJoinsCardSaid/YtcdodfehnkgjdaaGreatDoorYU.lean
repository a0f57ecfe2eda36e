/- Contracts of the specification's hasTurn and joined. -/
import Derived.Test.YtcdodfehnkgjdaaGreatDoorUU
import Derived.Test.YtcdodfehnkgjdaaGreatDoorUF
namespace Go.Proofs.YtcdodfehnkgjdaaGreatDoor
open Go.RowKit

set_option maxHeartbeats 4000000 in
set_option maxRecDepth 1000000 in
theorem hasTurn_any (v : Value) (l : List T3) (p f m : Int) (w : World) (h : RT w.heap.size v l w) :
    Calls Tryz.prog 33 #[v, .agg #[.int .i64 p, .int .i64 f, .int .i64 m]] w fun e w' => e = .returned (.bool (decide ((p, f, m) ∈ l))) ∧ Below w.heap.size w w' := by
  obtain ⟨A, ca, rfl, n1, hx⟩ := h
  have HX := Lib.hid hx
  clear hx
  have B0 := Lib.hid ((Below.refl w.heap.size w).alloc (Nat.le_refl _) (.cells #[.int .i64 p, .int .i64 f, .int .i64 m] 42))
  go_enter Tryz.func33, Tryz.ntmps33
  go_wp2_with fail
  go_loopw [5] (fun u wr => ∃ k : Nat, u = .int .i64 k ∧ k ≤ l.length ∧ (∀ t ∈ l.take k, t ≠ (p, f, m)) ∧ Below w.heap.size w wr ∧ wr.cell? ⟨w.heap.size, 0, none⟩ = some (.int .i64 p) ∧ wr.cell? ⟨w.heap.size, 1, none⟩ = some (.int .i64 f) ∧ wr.cell? ⟨w.heap.size, 2, none⟩ = some (.int .i64 m)) (fun u _ => l.length - (intOf u).toNat)
  case atStart => exact ⟨0, rfl, by omega, by simp, B0.out, by simp [go_sem], by simp [go_sem], by simp [go_sem]⟩
  case round =>
    obtain ⟨k, rfl, hk, hs, hB, t0, t1, t2⟩ := hrel
    have HSm := Lib.hid hs
    have HB := Lib.hid hB
    clear hs hB B0
    by_cases hkn : k < l.length
    · obtain ⟨b1, o1, rfl, l1, q1⟩ := HX.out (by omega)
      obtain ⟨⟨x, y, z⟩, hx⟩ : ∃ t, l[k]? = some t := ⟨_, List.getElem?_eq_getElem hkn⟩
      have hk0 : (k : Int) < (l.length : Int) := by omega
      obtain ⟨r1, r2, r3⟩ := q1 k x y z hx
      have c1 := (HB.out.cell (p := ⟨b1, o1 + k * 3, none⟩) l1).trans r1
      have c2 := (HB.out.cell (p := ⟨b1, o1 + k * 3 + 1, none⟩) l1).trans r2
      have c3 := (HB.out.cell (p := ⟨b1, o1 + k * 3 + 2, none⟩) l1).trans r3
      have HXk := Lib.hid hx
      clear q1 r1 r2 r3 hx
      by_cases e : (x, y, z) = (p, f, m)
      · have HF : Hid (decide ((p, f, m) ∈ l) = true) := Lib.hid (by
          rw [← e]
          simp
          exact List.mem_of_getElem? HXk.out)
        obtain ⟨rfl, rfl, rfl⟩ : x = p ∧ y = f ∧ z = m := by simpa using e
        clear e
        go_wp2_with fail
        go_quiet (fail)
        go_wp2_with fail
        go_ret
        exact ⟨by rw [HF.out]; rfl, HB.out.trans (below_drewN (Below.refl _ _) _)⟩
      · have HN : Hid (∀ t ∈ l.take (k + 1), t ≠ (p, f, m)) := Lib.hid (by
          intro t ht
          obtain ⟨h1, h2⟩ := List.getElem?_eq_some_iff.1 HXk.out
          rw [List.take_succ_eq_append_getElem h1, h2, List.mem_append, List.mem_singleton] at ht
          rcases ht with ht | rfl
          · exact HSm.out t ht
          · exact e)
        have HNE := Lib.hid e
        clear e
        by_cases e1 : x = p
        · subst e1
          by_cases e2 : y = f
          · subst e2
            have e3 : ¬ z = m := fun h => HNE.out (by rw [h])
            go_wp2_with fail
            go_quiet (fail)
            go_wp2_with fail
            go_roundw
            case rel => exact ⟨k + 1, by go_num, by omega, HN.out, HB.out.trans (below_drewN (Below.refl _ _) _), t0, t1, t2⟩
            case measure => show l.length - ((k : Int) + 1).toNat < l.length - (k : Int).toNat; omega
          · go_wp2_with fail
            go_quiet (fail)
            go_wp2_with fail
            go_roundw
            case rel => exact ⟨k + 1, by go_num, by omega, HN.out, HB.out.trans (below_drewN (Below.refl _ _) _), t0, t1, t2⟩
            case measure => show l.length - ((k : Int) + 1).toNat < l.length - (k : Int).toNat; omega
        · go_wp2_with fail
          go_quiet (fail)
          go_wp2_with fail
          go_roundw
          case rel => exact ⟨k + 1, by go_num, by omega, HN.out, HB.out.trans (below_drewN (Below.refl _ _) _), t0, t1, t2⟩
          case measure => show l.length - ((k : Int) + 1).toNat < l.length - (k : Int).toNat; omega
    · have hk0 : (l.length : Int) ≤ (k : Int) := by omega
      have HE : Hid (decide ((p, f, m) ∈ l) = false) := Lib.hid (by
        simp
        intro h
        exact HSm.out _ (by rw [List.take_of_length_le (by omega)]; exact h) rfl)
      go_wp2_with fail
      go_ret
      exact ⟨by rw [HE.out]; rfl, HB.out⟩
end Go.Proofs.YtcdodfehnkgjdaaGreatDoor

/- Contract of the specification's joined. -/
namespace Go.Proofs.YtcdodfehnkgjdaaGreatDoor
open Go.RowKit

/-- What joining spans leaves. -/
def JoinedOf (l su : List S2) : Prop := ApartL su ∧ ∀ m, inS su m = inS l m
def SpOk (l : List S2) : Prop := ∀ x ∈ l, SOk x.1 x.2
theorem loMin_take {l : List S2} {k : Nat} {x : S2} (h : l[k]? = some x) (f : Int) : (l.take (k + 1)).foldl (loStep f) 1048577 = loStep f ((l.take k).foldl (loStep f) 1048577) x := by
  obtain ⟨h1, rfl⟩ := List.getElem?_eq_some_iff.1 h
  rw [List.take_succ_eq_append_getElem h1, List.foldl_append]; rfl
theorem hiPass_take {l : List S2} {k : Nat} {x : S2} (h : l[k]? = some x) (f : Int) : (l.take (k + 1)).foldl hiStep f = hiStep ((l.take k).foldl hiStep f) x := by
  obtain ⟨h1, rfl⟩ := List.getElem?_eq_some_iff.1 h
  rw [List.take_succ_eq_append_getElem h1, List.foldl_append]; rfl

/-- What joined keeps between two spans. -/
def JnL (w : World) (l : List S2) (f : Int) (v : Value) (su : List S2) (W : World) : Prop :=
  OwnS w.heap.size v su W ∧ JoinIs l su f ∧ Below w.heap.size w W ∧ (su.length : Int) ≤ f ∧ 0 ≤ f ∧ f ≤ 1048577
section
variable {w W : World} {l su : List S2} {f : Int} {v : Value}
theorem JnL.own (h : JnL w l f v su W) : OwnS w.heap.size v su W := h.1
theorem JnL.is (h : JnL w l f v su W) : JoinIs l su f := h.2.1
theorem JnL.bel (h : JnL w l f v su W) : Below w.heap.size w W := h.2.2.1
theorem JnL.bd (h : JnL w l f v su W) : (su.length : Int) ≤ f ∧ 0 ≤ f ∧ f ≤ 1048577 := h.2.2.2
theorem OwnS.form {base : Nat} {v : Value} {l : List S2} {W : World} (h : OwnS base v l W) : ∃ A c, v = .slice A l.length c ∧ (0 < l.length → ∃ g, A = some ⟨g, 0, none⟩) := by
  rcases h.2 with ⟨rfl, h0⟩ | ⟨g, cap, cur, rfl, _⟩
  · exact ⟨none, 0, by rw [h0], fun h => by omega⟩
  · exact ⟨_, _, rfl, fun _ => ⟨_, rfl⟩⟩
end

set_option maxHeartbeats 16000000 in
set_option maxRecDepth 1000000 in
theorem rjoined_any (v : Value) (l : List S2) (w : World) (h : RS w.heap.size v l w) (hv : SpOk l) (hlen : l.length ≤ 200) :
    Calls Tryz.prog 34 #[v] w fun e w' => ∃ v' su, e = .returned v' ∧ OwnS w.heap.size v' su w' ∧ JoinedOf l su ∧ su.length ≤ 1048577 ∧ Below w.heap.size w w' := by
  obtain ⟨i0, hi, hz0, hz1, hz2⟩ := info_parts infoSpan
  obtain ⟨A, ca, rfl, n1, hx⟩ := h
  have HX := Lib.hid hx
  have HV := Lib.hid hv
  have hv1 : Hid (∀ x ∈ l, x.1 ≤ x.2 ∧ x.2 ≤ 1048576) := Lib.hid fun x hx => ⟨(hv x hx).2.1, (hv x hx).2.2⟩
  have S0 : Hid (JnL w l 0 (.slice none 0 0) [] w) := Lib.hid ⟨World.ownsRow_nil _ _ _ _, JoinIs.nil (fun x hx => (hv x hx).1), Below.refl _ _, by simp, by omega, by omega⟩
  clear hx hv
  go_enter Tryz.func34, Tryz.ntmps34
  go_wp2_with fail
  go_loopw [3, 4] (fun o u wr => ∃ (su : List S2) (f : Int), u = .int .i64 f ∧ JnL w l f o su wr) (fun _ u _ => 1048578 - (intOf u).toNat)
  case atStart => exact ⟨[], 0, rfl, S0.out⟩
  case round =>
    obtain ⟨su, f, rfl, hS⟩ := hrel
    have S := Lib.hid hS
    obtain ⟨Av, cv, rfl, -⟩ := hS.own.form
    obtain ⟨d1, d2, d3⟩ := hS.bd
    clear hS S0
    go_wp2_with fail
    go_loopw [5, 6] (fun o u wi => ∃ k : Nat, u = .int .i64 k ∧ k ≤ l.length ∧ o = .int .i64 ((l.take k).foldl (loStep f) 1048577) ∧ wi = wr) (fun _ u _ => l.length - (intOf u).toNat)
    case atStart => exact ⟨0, rfl, by omega, rfl, rfl⟩
    case round =>
      obtain ⟨k, rfl, hk, rfl, rfl⟩ := hrel
      by_cases hkl : k < l.length
      · obtain ⟨b, o, rfl, hbB, hcs⟩ := HX.out (by omega)
        have hk0 : (k : Int) < (l.length : Int) := by omega
        obtain ⟨⟨p, q⟩, ht⟩ : ∃ t, l[k]? = some t := ⟨_, List.getElem?_eq_getElem hkl⟩
        obtain ⟨c0, c1⟩ := hcs k p q ht
        have d0 := (S.out.bel.cell (p := ⟨b, o + k * 2, none⟩) hbB).trans c0
        have d1 := (S.out.bel.cell (p := ⟨b, o + k * 2 + 1, none⟩) hbB).trans c1
        have HT : Hid ((l.take (k + 1)).foldl (loStep f) 1048577 = if f ≤ q then min ((l.take k).foldl (loStep f) 1048577) (max f p) else (l.take k).foldl (loStep f) 1048577) := Lib.hid (loMin_take ht f)
        generalize (l.take k).foldl (loStep f) 1048577 = lo at *
        clear c0 c1 ht hcs
        by_cases e1 : f ≤ q
        · by_cases e2 : f < p
          · by_cases e3 : p < lo
            · go_wp2_with fail
              go_roundw
              case rel => exact ⟨k + 1, by go_num, by omega, by rw [HT.out, if_pos e1, show min lo (max f p) = p by omega], by first | rfl | trivial⟩
              case measure => show l.length - ((k : Int) + 1).toNat < l.length - (k : Int).toNat; omega
            · go_wp2_with fail
              go_roundw
              case rel => exact ⟨k + 1, by go_num, by omega, by rw [HT.out, if_pos e1, show min lo (max f p) = lo by omega], by first | rfl | trivial⟩
              case measure => show l.length - ((k : Int) + 1).toNat < l.length - (k : Int).toNat; omega
          · by_cases e3 : f < lo
            · go_wp2_with fail
              go_roundw
              case rel => exact ⟨k + 1, by go_num, by omega, by rw [HT.out, if_pos e1, show min lo (max f p) = f by omega], by first | rfl | trivial⟩
              case measure => show l.length - ((k : Int) + 1).toNat < l.length - (k : Int).toNat; omega
            · go_wp2_with fail
              go_roundw
              case rel => exact ⟨k + 1, by go_num, by omega, by rw [HT.out, if_pos e1, show min lo (max f p) = lo by omega], by first | rfl | trivial⟩
              case measure => show l.length - ((k : Int) + 1).toNat < l.length - (k : Int).toNat; omega
        · go_wp2_with fail
          go_roundw
          case rel => exact ⟨k + 1, by go_num, by omega, by rw [HT.out, if_neg e1], by first | rfl | trivial⟩
          case measure => show l.length - ((k : Int) + 1).toNat < l.length - (k : Int).toNat; omega
      · have hk0 : (l.length : Int) ≤ (k : Int) := by omega
        have HL : Hid ((l.take k).foldl (loStep f) 1048577 = loMin l f) := Lib.hid (by rw [List.take_of_length_le (by omega)]; rfl)
        rw [HL.out]
        have HM := Lib.hid (loMin_is l 1048577 (from_ := f) (by omega) (fun x hx => (hv1.out x hx).1))
        by_cases hend : 1048576 < loMin l f
        · have HJ : Hid (JoinedOf l su) := Lib.hid ⟨S.out.is.apart, S.out.is.end_ hv1.out (by omega) hend⟩
          clear HM HL
          generalize loMin l f = lo at *
          go_wp2_with fail
          go_ret
          exact ⟨_, su, rfl, S.out.own, HJ.out, by have := S.out.bd; omega, S.out.bel⟩
        · obtain ⟨n1', n2', n3', n4'⟩ := S.out.is.next hv1.out (by omega) (by omega)
          have HN := Lib.hid n1'
          have HR := Lib.hid n2'
          clear HL
          have hb1 : f ≤ loMin l f := n3'
          have hb2 : loMin l f ≤ 1048576 := by omega
          have hb3 : loMin l f ≤ hiN l l.length (loMin l f) := n2'
          have hb4 : hiN l l.length (loMin l f) ≤ 1048576 := n4'
          have HI0 : Hid (∀ lo, hiN l 0 lo = lo) := Lib.hid fun _ => rfl
          have HIS : Hid (∀ n lo, hiN l (n + 1) lo = l.foldl hiStep (hiN l n lo)) := Lib.hid fun _ _ => rfl
          obtain ⟨lo, hlo⟩ : ∃ lo, loMin l f = lo := ⟨_, rfl⟩
          clear n1' n2' n3' n4' HM HR
          rw [hlo] at hend HN hb1 hb2 hb3 hb4 ⊢
          clear hlo
          have hlt : ¬ (1048576 < lo) := hend
          go_wp2_with fail
          go_loopw [7, 8] (fun h u wi => ∃ n : Nat, u = .int .i64 n ∧ n ≤ l.length ∧ h = .int .i64 (hiN l n lo) ∧ lo ≤ hiN l n lo ∧ hiN l n lo ≤ 1048576 ∧ wi = wr) (fun _ u _ => l.length - (intOf u).toNat)
          case atStart => exact ⟨0, rfl, by omega, rfl, by rw [HI0.out]; omega, by rw [HI0.out]; omega, by first | rfl | trivial⟩
          case round =>
            obtain ⟨n, rfl, hn, rfl, g1, g2, rfl⟩ := hrel
            by_cases hnl : n < l.length
            · have hn0 : (n : Int) < (l.length : Int) := by omega
              have HS := Lib.hid (HIS.out n lo)
              generalize hiN l n lo = h0 at *
              go_wp2_with fail
              go_loopw [7, 9] (fun h u wi => ∃ k : Nat, u = .int .i64 k ∧ k ≤ l.length ∧ h = .int .i64 ((l.take k).foldl hiStep h0) ∧ lo ≤ (l.take k).foldl hiStep h0 ∧ (l.take k).foldl hiStep h0 ≤ 1048576 ∧ wi = wr) (fun _ u _ => l.length - (intOf u).toNat)
              case atStart => exact ⟨0, rfl, by omega, rfl, g1, g2, by first | rfl | trivial⟩
              case round =>
                obtain ⟨k, rfl, hk, rfl, g3, g4, rfl⟩ := hrel
                by_cases hkl : k < l.length
                · obtain ⟨b, o, rfl, hbB, hcs⟩ := HX.out (by omega)
                  have hk0 : (k : Int) < (l.length : Int) := by omega
                  obtain ⟨⟨p, q⟩, ht⟩ : ∃ t, l[k]? = some t := ⟨_, List.getElem?_eq_getElem hkl⟩
                  obtain ⟨c0, c1⟩ := hcs k p q ht
                  have d0 := (S.out.bel.cell (p := ⟨b, o + k * 2, none⟩) hbB).trans c0
                  have d1 := (S.out.bel.cell (p := ⟨b, o + k * 2 + 1, none⟩) hbB).trans c1
                  have hq : q ≤ 1048576 := (hv1.out _ (List.mem_of_getElem? ht)).2
                  have HT : Hid ((l.take (k + 1)).foldl hiStep h0 = if p ≤ (l.take k).foldl hiStep h0 + 1 then max ((l.take k).foldl hiStep h0) q else (l.take k).foldl hiStep h0) := Lib.hid (hiPass_take ht h0)
                  generalize (l.take k).foldl hiStep h0 = hh at *
                  have W1 : IntKind.i64.wrap (hh + 1) = hh + 1 := IntWalk.i64_in _ (by omega)
                  clear c0 c1 ht hcs
                  by_cases e1 : p ≤ hh + 1
                  · by_cases e2 : hh < q
                    · go_wp2_with fail
                      go_roundw
                      case rel => exact ⟨k + 1, by go_num, by omega, by rw [HT.out, if_pos e1, show max hh q = q by omega], by rw [HT.out, if_pos e1]; omega, by rw [HT.out, if_pos e1]; omega, by first | rfl | trivial⟩
                      case measure => show l.length - ((k : Int) + 1).toNat < l.length - (k : Int).toNat; omega
                    · go_wp2_with fail
                      go_roundw
                      case rel => exact ⟨k + 1, by go_num, by omega, by rw [HT.out, if_pos e1, show max hh q = hh by omega], by rw [HT.out, if_pos e1]; omega, by rw [HT.out, if_pos e1]; omega, by first | rfl | trivial⟩
                      case measure => show l.length - ((k : Int) + 1).toNat < l.length - (k : Int).toNat; omega
                  · go_wp2_with fail
                    go_roundw
                    case rel => exact ⟨k + 1, by go_num, by omega, by rw [HT.out, if_neg e1], by rw [HT.out, if_neg e1]; omega, by rw [HT.out, if_neg e1]; omega, by first | rfl | trivial⟩
                    case measure => show l.length - ((k : Int) + 1).toNat < l.length - (k : Int).toNat; omega
                · have hk0 : (l.length : Int) ≤ (k : Int) := by omega
                  have HE : Hid ((l.take k).foldl hiStep h0 = hiN l (n + 1) lo) := Lib.hid (by rw [List.take_of_length_le (by omega), HS.out])
                  rw [HE.out] at g3 g4 ⊢
                  go_wp2_with fail
                  go_roundw
                  case rel => exact ⟨n + 1, by go_num, by omega, rfl, g3, g4, by first | rfl | trivial⟩
                  case measure => show l.length - ((n : Int) + 1).toNat < l.length - (n : Int).toNat; omega
            · obtain rfl : n = l.length := by omega
              have hn0 : (l.length : Int) ≤ (l.length : Int) := Int.le_refl _
              obtain ⟨hi', hhi⟩ : ∃ h, hiN l l.length lo = h := ⟨_, rfl⟩
              rw [hhi] at g1 g2 hb3 hb4 HN ⊢
              obtain ⟨n, hn'⟩ : ∃ n, su.length = n := ⟨_, rfl⟩
              rw [hn'] at S d1 ⊢
              have HNN := Lib.hid hn'
              have HO : Hid (wr.ownsRow w.heap.size 45 2 (.slice Av n cv) n (cells2 su)) := Lib.hid (by have := S.out.own; unfold OwnS at this; rwa [hn'] at this)
              have hbs := S.out.bel.size
              have HLT := Lib.hid fun q (hq : q ∈ (Value.ownBlock (.slice Av n cv)).toList) => HO.out.lt q (by simpa using hq)
              have W1 : IntKind.i64.wrap (hi' + 1) = hi' + 1 := IntWalk.i64_in _ (by omega)
              clear hhi hn'
              go_wp2_with (at_builtin; refine wpList_append_own _ rfl _ _ 23 rfl w.heap.size 45 i0 (.agg #[.int .i64 0, .int .i64 0]) 2 16 Tryz.underlying23 hi hz0 hz1 hz2 rfl (by decide) _ n _ rfl (HO.out.alloc _) ⟨wr.heap.size, 0, none⟩ 1 1 [.int .i64 lo, .int .i64 hi'] rfl rfl ?c1 ?c2 ?c3 ?c4 ?c5 ?_)
              case c1 =>
                intro j u hj
                match j, hj with
                | 0, hj => simp at hj; subst hj; simp [go_sem, Addr.add]
                | 1, hj => simp at hj; subst hj; simp [go_sem, Addr.add]
                | j + 2, hj => simp at hj
              case c2 => intro u hu; simp at hu; rcases hu with rfl | rfl <;> rfl
              case c3 => unfold maxLen; omega
              case c4 => omega
              case c5 => simp <;> omega
              intro v' w4 hown' hgrow _
              have R : Hid (JnL w l (hi' + 1) v' (su ++ [(lo, hi')]) w4) := Lib.hid (by
                have g1' := (GrownL.of_below ((Below.refl wr.heap.size wr).alloc (Nat.le_refl _) (.cells #[.int .i64 lo, .int .i64 hi'] 45))).trans (GrownL.of_by' hgrow)
                have hlt := HLT.out
                refine ⟨?_, HN.out, S.out.bel.trans (g1'.below (fun q hq => (hlt q hq).1) hbs), by rw [List.length_append, HNN.out]; simp; omega, by omega, by omega⟩
                unfold OwnS
                rw [cells2_snoc, List.length_append, HNN.out]
                exact hown')
              clear hown' hgrow
              go_wp2_with fail
              go_roundw
              case rel => exact ⟨_, hi' + 1, rfl, R.out⟩
              case measure => show 1048578 - (hi' + 1).toNat < 1048578 - f.toNat; omega
end Go.Proofs.YtcdodfehnkgjdaaGreatDoor

/- Contract of the specification's Shift. -/
namespace Go.Proofs.YtcdodfehnkgjdaaGreatDoor
open Go.RowKit

/-- A set that is being made in block n1; the result, not yet, in block rb. -/
structure OutL (rb n1 : Nat) (v s : Value) (l : List T3) (W : World) : Prop where
  own : OwnT (n1 + 1) v l W
  res : W.heap[rb]? = some (.cells #[.slice none 0 0, .slice none 0 0, .int .i64 0] 31 (0, 0))
  c0 : W.cell? ⟨n1, 0, none⟩ = some v
  c1 : W.cell? ⟨n1, 1, none⟩ = some s
  c2 : W.cell? ⟨n1, 2, none⟩ = some (.int .i64 0)
  f : ∀ j, W.frozen? ⟨n1, j, none⟩ = false
  le : rb + 1 ≤ n1
  siz : n1 + 1 ≤ W.heap.size
section
variable {W W' : World} {v s : Value} {rb n1 : Nat} {l l' : List T3} {bs : List Nat}
theorem OutL.cast (h : OutL rb n1 v s l W) (e : l' = l) : OutL rb n1 v s l' W := e ▸ h
theorem OutL.grown (h : OutL rb n1 v s l W) (hg : GrownL bs W W') (h1 : rb ∉ bs) (h2 : n1 ∉ bs) (h3 : ∀ g, v.ownBlock = some g → g ∉ bs) : OutL rb n1 v s l W' := by
  have hs := h.siz
  have hle := h.le
  exact ⟨h.own.grown hg h3, (hg.block _ (by omega) h1).trans h.res, hg.cell h.c0 h2, hg.cell h.c1 h2, hg.cell h.c2 h2, fun j => (World.frozen?_of_block (a := ⟨n1, j, none⟩) (hg.block _ (by show n1 < _; omega) h2)).trans (h.f j), hle, Nat.le_trans hs hg.size⟩
theorem OutL.below (h : OutL rb n1 v s l W) (hb : Below W.heap.size W W') : OutL rb n1 v s l W' := h.grown (GrownL.of_below (bs := []) hb) (by simp) (by simp) (by simp)
theorem OutL.rres (h : OutL rb n1 v s l W) : W.cell? ⟨rb, 0, none⟩ = some (.slice none 0 0) ∧ W.cell? ⟨rb, 1, none⟩ = some (.slice none 0 0) ∧ W.cell? ⟨rb, 2, none⟩ = some (.int .i64 0) ∧ W.frozen? ⟨rb, 0, none⟩ = false ∧ W.frozen? ⟨rb, 1, none⟩ = false ∧ W.frozen? ⟨rb, 2, none⟩ = false :=
  ⟨by simp [World.cell?, h.res], by simp [World.cell?, h.res], by simp [World.cell?, h.res], by simp [World.frozen?, h.res], by simp [World.frozen?, h.res], by simp [World.frozen?, h.res]⟩
theorem OutL.new (W : World) (rb : Nat) (hr : W.heap[rb]? = some (.cells #[.slice none 0 0, .slice none 0 0, .int .i64 0] 31 (0, 0))) :
    OutL rb W.heap.size (.slice none 0 0) (.slice none 0 0) [] (W.alloc (.cells #[.slice none 0 0, .slice none 0 0, .int .i64 0] 31)) := by
  have hlt := (Array.getElem?_eq_some_iff.1 hr).1
  have hn := World.alloc_heap_new W (.cells #[.slice none 0 0, .slice none 0 0, .int .i64 0] 31)
  refine ⟨World.ownsRow_nil _ _ _ _, ?_, by simp [go_sem], by simp [go_sem], by simp [go_sem], fun j => by unfold World.frozen?; rw [hn]; simp, hlt, by simp⟩
  exact (((Below.refl W.heap.size W).alloc (Nat.le_refl _) _).block _ hlt).trans hr
/-- One turn more. -/
theorem OutL.more {w4 : World} {n g' cap' : Nat} {x : T3} (h : OutL rb n1 v s l W) (hga : GrownL v.ownBlock.toList W w4) (hn : l.length = n)
    (hown : w4.ownsRow (n1 + 1) 42 3 (.slice (some ⟨g', 0, none⟩) (n + 1) cap') (n + 1) (rowT3 l ++ [.int .i64 x.1, .int .i64 x.2.1, .int .i64 x.2.2])) :
    OutL rb n1 (.slice (some ⟨g', 0, none⟩) (n + 1) cap') s (l ++ [x]) (w4.setCell ⟨n1, 0, none⟩ (.slice (some ⟨g', 0, none⟩) (n + 1) cap')) := by
  have hlt := fun q (hq : q ∈ v.ownBlock.toList) => h.own.lt q (by simpa using hq)
  have hle := h.le
  have hs := hga.size
  have hsz := h.siz
  have hn1 : n1 ∉ v.ownBlock.toList := fun hm => by have := hlt _ hm; omega
  have hrb : rb ∉ v.ownBlock.toList := fun hm => by have := hlt _ hm; omega
  have gs := GrownL.set (bs := [n1]) w4 ⟨n1, 0, none⟩ (.slice (some ⟨g', 0, none⟩) (n + 1) cap') (by simp)
  have hg' := (World.ownsRow.lt hown g' rfl).1
  have e0 : w4.cell? ⟨n1, 0, none⟩ = some v := hga.cell h.c0 hn1
  have e1 : w4.cell? ⟨n1, 1, none⟩ = some s := hga.cell h.c1 hn1
  have e2 : w4.cell? ⟨n1, 2, none⟩ = some (.int .i64 0) := hga.cell h.c2 hn1
  refine ⟨?_, ?_, World.cell?_setCell_same' _ _ _ (by rw [e0]; rfl), ?_, ?_, fun j => ?_, hle, ?_⟩
  · refine OwnT.grown (bs := [n1]) (W := w4) ?_ gs (fun q hq hm => by simp [Value.ownBlock] at hq hm; omega)
    unfold OwnT
    rw [rowT3_snoc, List.length_append, hn]
    exact hown
  · exact (gs.block _ (by omega) (by simp; omega)).trans ((hga.block _ (by omega) hrb).trans h.res)
  · rw [World.cell?_setCell_other _ _ _ _ (by simp)]; exact e1
  · rw [World.cell?_setCell_other _ _ _ _ (by simp)]; exact e2
  · rw [World.frozen?_setCell]
    exact (World.frozen?_of_block (a := ⟨n1, j, none⟩) (hga.block _ (by show n1 < _; omega) hn1)).trans (h.f j)
  · have := gs.size; omega
theorem N2d.grownL {w v0 v1 u0 u1} (h : N2d w v0 v1 u0 u1 W) (hg : GrownL bs W W') (hn : ∀ b ∈ bs, w.heap.size + 2 ≤ b) : N2d w v0 v1 u0 u1 W' := by
  obtain ⟨a0, a1, b0, b1, l1, hB⟩ := h.out
  have n0 : w.heap.size ∉ bs := fun hm => by have := hn _ hm; omega
  have n1 : w.heap.size + 1 ∉ bs := fun hm => by have := hn _ hm; omega
  exact ⟨hg.cell a0 n0, hg.cell a1 n0, hg.cell b0 n1, hg.cell b1 n1, by have := hg.size; omega, hB.trans (hg.below (fun b hb => by have := hn b hb; omega) (by omega))⟩
end
def RShiftPost (ts : List T3) (ss : List S2) (by_ c : Int) (w : World) (e : Ending) (w' : World) : Prop :=
  ∃ v l d, e = .returned (.agg #[v, .slice none 0 0, .int .i64 d]) ∧ RT w'.heap.size v l w' ∧ Below w.heap.size w w' ∧ ShiftIs ts ss by_ c l d

/-- The set in its block, the result in the next. -/
def ShX (w : World) (v0 v1 : Value) (W : World) : Prop :=
  NSd w v0 v1 W ∧ W.heap[w.heap.size + 1]? = some (.cells #[.slice none 0 0, .slice none 0 0, .int .i64 0] 31 (0, 0)) ∧ w.heap.size + 2 ≤ W.heap.size
section
variable {w W W' : World} {v0 v1 : Value}
theorem ShX.below (h : ShX w v0 v1 W) (hb : Below W.heap.size W W') : ShX w v0 v1 W' := ⟨h.1.below hb, (hb.block _ (by have := h.2.2; omega)).trans h.2.1, Nat.le_trans h.2.2 hb.size⟩
theorem ShX.new (w : World) (v0 v1 : Value) : ShX w v0 v1 ((w.alloc (.cells #[v0, v1] 25)).alloc (.cells #[.slice none 0 0, .slice none 0 0, .int .i64 0] 31)) := by
  refine ⟨(NSd.new _).alloc _, ?_, by simp⟩
  have := World.alloc_heap_new (w.alloc (.cells #[v0, v1] 25)) (.cells #[.slice none 0 0, .slice none 0 0, .int .i64 0] 31)
  simpa using this
theorem ShX.res (h : ShX w v0 v1 W) : W.cell? ⟨w.heap.size + 1, 0, none⟩ = some (.slice none 0 0) ∧ W.cell? ⟨w.heap.size + 1, 1, none⟩ = some (.slice none 0 0) ∧ W.cell? ⟨w.heap.size + 1, 2, none⟩ = some (.int .i64 0) ∧ W.frozen? ⟨w.heap.size + 1, 0, none⟩ = false ∧ W.frozen? ⟨w.heap.size + 1, 1, none⟩ = false ∧ W.frozen? ⟨w.heap.size + 1, 2, none⟩ = false :=
  ⟨by simp [World.cell?, h.2.1], by simp [World.cell?, h.2.1], by simp [World.cell?, h.2.1], by simp [World.frozen?, h.2.1], by simp [World.frozen?, h.2.1], by simp [World.frozen?, h.2.1]⟩
theorem below_set3 {b : Nat} (hb : Below w.heap.size w W) (hl : w.heap.size ≤ b) (x y z : Value) : Below w.heap.size w (((W.setCell ⟨b, 0, none⟩ x).setCell ⟨b, 1, none⟩ y).setCell ⟨b, 2, none⟩ z) :=
  ((hb.setCell (p := ⟨b, 0, none⟩) hl _).setCell (p := ⟨b, 1, none⟩) hl _).setCell (p := ⟨b, 2, none⟩) hl _
end

set_option maxHeartbeats 8000000 in
set_option maxRecDepth 1000000 in
theorem rshift_err (A A' : Option Addr) (m ca m' ca' : Nat) (ts : List T3) (ss : List S2) (by_ c : Int) (w : World) (h : RM w.heap.size (.agg #[.slice A m ca, .slice A' m' ca']) ts ss w) (hc : CheckIs ts ss c) (h0 : c ≠ 0) :
    Calls Tryz.prog 9 #[.agg #[.slice A m ca, .slice A' m' ca'], .int .i64 by_] w (RShiftPost ts ss by_ c w) := by
  have C := Lib.hid fun W (S : NSd w (.slice A m ca) (.slice A' m' ca') W) => rcheck_rm (h.up S.siz S.bel) hc
  have HP : Hid (ShiftIs ts ss by_ c [] c) := Lib.hid (.inl ⟨h0, rfl, rfl⟩)
  have S0 := Lib.hid (ShX.new w (.slice A m ca) (.slice A' m' ca'))
  have hb0 : (c != 0) = true := by rw [bne_iff_ne]; exact h0
  clear h hc h0
  go_enter Tryz.func9, Tryz.ntmps9
  go_wp2_with fail
  refine (C.out _ S0.out.1).mono ?_
  rintro e w1 ⟨rfl, h1⟩
  have S := Lib.hid (S0.out.below h1)
  clear h1 S0
  obtain ⟨x0, x1, x2, f0, f1, f2⟩ := S.out.res
  have Q := Lib.hid (set3 x0 x1 x2 (.slice none 0 0) (.slice none 0 0) (.int .i64 c))
  go_wp2_with fail
  refine bodyPost_ret (v := .agg #[.slice none 0 0, .slice none 0 0, .int .i64 c]) ?_ rfl ?_
  · obtain ⟨q0, q1, q2⟩ := Q.out
    simp [results, Tryz.results9, go_sem, q0, q1, q2]
  · exact ⟨_, [], c, rfl, rt_nil _ _, below_set3 S.out.1.bel (by omega) _ _ _, HP.out⟩

set_option maxHeartbeats 8000000 in
set_option maxRecDepth 1000000 in
theorem rshift_arg (A A' : Option Addr) (m ca m' ca' : Nat) (ts : List T3) (ss : List S2) (by_ : Int) (w : World) (h : RM w.heap.size (.agg #[.slice A m ca, .slice A' m' ca']) ts ss w) (hc : CheckIs ts ss 0) (h0 : ss ≠ [] ∨ by_ < -1048576 ∨ 1048576 < by_) :
    Calls Tryz.prog 9 #[.agg #[.slice A m ca, .slice A' m' ca'], .int .i64 by_] w (RShiftPost ts ss by_ 0 w) := by
  have C := Lib.hid fun W (S : NSd w (.slice A m ca) (.slice A' m' ca') W) => rcheck_rm (h.up S.siz S.bel) hc
  have HP : Hid (ShiftIs ts ss by_ 0 [] 1) := Lib.hid (.inr (.inl ⟨rfl, h0, rfl, rfl⟩))
  have S0 := Lib.hid (ShX.new w (.slice A m ca) (.slice A' m' ca'))
  have hm : m' = ss.length := by
    obtain ⟨_, _, _, _, _, _, e, _, h2⟩ := h
    simp at e
    obtain ⟨_, e2⟩ := e
    obtain ⟨_, _, e3, _⟩ := h2
    simp at e3
    omega
  have hcase : (0 : Int) < (m' : Int) ∨ ((m' : Int) ≤ 0 ∧ ¬ (-1048576 ≤ by_ ∧ by_ ≤ 1048576)) := by
    have : ss ≠ [] → 0 < ss.length := List.length_pos_iff.2
    rcases h0 with h0 | h0 | h0
    · have := this h0; omega
    · omega
    · omega
  clear h hc h0 hm
  rcases hcase with hk | ⟨hk, hk2⟩
  · go_enter Tryz.func9, Tryz.ntmps9
    go_wp2_with fail
    refine (C.out _ S0.out.1).mono ?_
    rintro e w1 ⟨rfl, h1⟩
    have S := Lib.hid (S0.out.below h1)
    clear h1 S0
    obtain ⟨x0, x1, x2, f0, f1, f2⟩ := S.out.res
    obtain ⟨y0, y1, y2, _⟩ := S.out.1.out
    have Q := Lib.hid (set3 x0 x1 x2 (.slice none 0 0) (.slice none 0 0) (.int .i64 1))
    go_wp2_with fail
    refine bodyPost_ret (v := .agg #[.slice none 0 0, .slice none 0 0, .int .i64 1]) ?_ rfl ?_
    · obtain ⟨q0, q1, q2⟩ := Q.out
      simp [results, Tryz.results9, go_sem, q0, q1, q2]
    · exact ⟨_, [], 1, rfl, rt_nil _ _, below_set3 S.out.1.bel (by omega) _ _ _, HP.out⟩
  · have R := Lib.hid fun W => rin_no by_ (-1048576) 1048576 W hk2
    clear hk2
    go_enter Tryz.func9, Tryz.ntmps9
    go_wp2_with fail
    refine (C.out _ S0.out.1).mono ?_
    rintro e w1 ⟨rfl, h1⟩
    have S := Lib.hid (S0.out.below h1)
    clear h1 S0
    obtain ⟨x0, x1, x2, f0, f1, f2⟩ := S.out.res
    obtain ⟨y0, y1, y2, _⟩ := S.out.1.out
    have Q := Lib.hid (set3 x0 x1 x2 (.slice none 0 0) (.slice none 0 0) (.int .i64 1))
    go_wp2_with (go_at_call 37; refine (R.out _).mono ?_; rintro e w4 ⟨rfl, rfl⟩)
    refine bodyPost_ret (v := .agg #[.slice none 0 0, .slice none 0 0, .int .i64 1]) ?_ rfl ?_
    · obtain ⟨q0, q1, q2⟩ := Q.out
      simp [results, Tryz.results9, go_sem, q0, q1, q2]
    · exact ⟨_, [], 1, rfl, rt_nil _ _, below_set3 S.out.1.bel (by omega) _ _ _, HP.out⟩
end Go.Proofs.YtcdodfehnkgjdaaGreatDoor

/- Contract of the specification's Shift, where there is no error. -/
namespace Go.Proofs.YtcdodfehnkgjdaaGreatDoor
open Go.RowKit

theorem cell_lit3 {W : World} {b : Nat} {x y z : Value} {t : TypeId} (hb : b = W.heap.size) : ∀ (j : Nat) (u : Value), [x, y, z][j]? = some u → (W.alloc (.cells #[x, y, z] t)).cell? ((⟨b, 0, none⟩ : Addr).add j) = some u := by
  subst hb
  intro j u hj
  match j, hj with
  | 0, hj => simp at hj; subst hj; simp [go_sem, Addr.add]
  | 1, hj => simp at hj; subst hj; simp [go_sem, Addr.add]
  | 2, hj => simp at hj; subst hj; simp [go_sem, Addr.add]
  | j + 3, hj => simp at hj
theorem one3 (p q l : Int) : ∀ u ∈ [Value.int .i64 p, .int .i64 q, .int .i64 l], u.oneCell' = true := by
  intro u hu
  simp at hu
  rcases hu with rfl | rfl | rfl <;> rfl
set_option maxHeartbeats 16000000 in
set_option maxRecDepth 1000000 in
theorem rshift_ok (A A' : Option Addr) (m ca m' ca' : Nat) (ts : List T3) (by_ : Int) (w : World) (h : RM w.heap.size (.agg #[.slice A m ca, .slice A' m' ca']) ts [] w) (hc : CheckIs ts [] 0) (h0 : -1048576 ≤ by_) (h1 : by_ ≤ 1048576) :
    Calls Tryz.prog 9 #[.agg #[.slice A m ca, .slice A' m' ca'], .int .i64 by_] w (RShiftPost ts [] by_ 0 w) := by
  obtain ⟨i0, hi, hz0, hz1, hz2⟩ := info_parts infoTurn
  obtain ⟨k1, k2, k3⟩ := checkIs_ok hc
  have HOK := Lib.hid k3
  have C := Lib.hid fun W (S : NSd w (.slice A m ca) (.slice A' m' ca') W) => rcheck_rm (h.up S.siz S.bel) hc
  have HP : Hid (ShiftIs ts [] by_ 0 (ts.map (laterT by_)) 0) := Lib.hid (.inr (.inr ⟨rfl, rfl, h0, h1, rfl, rfl⟩))
  have S0 := Lib.hid (ShX.new w (.slice A m ca) (.slice A' m' ca'))
  have R := Lib.hid fun W => rin_yes by_ (-1048576) 1048576 W h0 h1
  obtain ⟨A1, n1, c1, A2, n2, c2, e, hr1, hr2⟩ := h
  simp only [Value.agg.injEq, Array.mk.injEq, List.cons.injEq, Value.slice.injEq, and_true] at e
  obtain ⟨⟨rfl, rfl, rfl⟩, rfl, rfl, rfl⟩ := e
  obtain ⟨_, _, e, _, hx⟩ := hr1
  simp only [Value.slice.injEq] at e
  obtain ⟨rfl, rfl, rfl⟩ := e
  obtain ⟨_, _, e, _, _⟩ := hr2
  simp only [Value.slice.injEq] at e
  obtain ⟨rfl, rfl, rfl⟩ := e
  have HX := Lib.hid hx
  clear hc k3 hx
  go_enter Tryz.func9, Tryz.ntmps9
  go_wp2_with fail
  refine (C.out _ S0.out.1).mono ?_
  rintro e w1 ⟨rfl, h1'⟩
  have S := Lib.hid (S0.out.below h1')
  clear h1' S0 C
  obtain ⟨y0, y1, y2, _⟩ := S.out.1.out
  have hz := S.out.2.2
  obtain ⟨n1, hn1⟩ : ∃ n, n = w1.heap.size := ⟨_, rfl⟩
  have O0 : Hid (OutL (w.heap.size + 1) n1 (.slice none 0 0) (.slice none 0 0) (partL by_ [] 0) (w1.alloc (.cells #[.slice none 0 0, .slice none 0 0, .int .i64 0] 31))) := Lib.hid (by rw [hn1]; exact OutL.new w1 _ S.out.2.1)
  have N0 := Lib.hid (S.out.1.alloc (.cells #[.slice none 0 0, .slice none 0 0, .int .i64 0] 31))
  go_wp2_with (go_at_call 37; refine (R.out _).mono ?_; rintro e w4 ⟨rfl, rfl⟩)
  clear S y0 y1 y2 R
  rw [← hn1]
  clear hn1
  go_loopw [7] (fun u wr => ∃ (k : Nat) (v : Value), u = .int .i64 k ∧ k ≤ ts.length ∧ OutL (w.heap.size + 1) n1 v (.slice none 0 0) ((ts.map (laterT by_)).take k) wr ∧ NSd w (.slice A ts.length ca) (.slice A' ([] : List S2).length ca') wr) (fun u _ => ts.length - (intOf u).toNat)
  case atStart => exact ⟨0, _, rfl, by omega, O0.out, N0.out⟩
  case round =>
    obtain ⟨k, v, rfl, hk, hS, hN⟩ := hrel
    have S := Lib.hid hS
    have N := Lib.hid hN
    obtain ⟨y0, y1, y2, _⟩ := hN.out
    clear hS hN O0 N0
    by_cases hkl : k < ts.length
    · obtain ⟨b, o, rfl, hbB, hcs⟩ := HX.out (by omega)
      have hk0 : (k : Int) < (ts.length : Int) := by omega
      obtain ⟨⟨p, f, l⟩, ht⟩ : ∃ t, ts[k]? = some t := ⟨_, List.getElem?_eq_getElem hkl⟩
      have ⟨q1, q2, q3, q4, q5, q6⟩ := HOK.out.1 _ (List.mem_of_getElem? ht)
      simp only at q1 q2 q3 q4 q5 q6
      obtain ⟨c0, c1, c2⟩ := hcs k p f l ht
      have d0 := (N.out.bel.cell (p := ⟨b, o + k * 3, none⟩) hbB).trans c0
      have d1 := (N.out.bel.cell (p := ⟨b, o + k * 3 + 1, none⟩) hbB).trans c1
      have d2 := (N.out.bel.cell (p := ⟨b, o + k * 3 + 2, none⟩) hbB).trans c2
      have HT : Hid ((ts.map (laterT by_)).take (k + 1) = (ts.map (laterT by_)).take k ++ [(p, (f + by_) % p, l)]) := Lib.hid (by
        obtain ⟨h1, h2⟩ := List.getElem?_eq_some_iff.1 ht
        rw [List.take_succ_eq_append_getElem (by simpa using h1), List.getElem_map, h2]; rfl)
      have R := Lib.hid fun W => rmod_any (f + by_) p W (by omega) (by omega) (by omega) (by omega)
      have W1 : IntKind.i64.wrap (f + by_) = f + by_ := IntWalk.i64_in _ (by omega)
      have hlen : ((ts.map (laterT by_)).take k).length = k := by simp; omega
      obtain ⟨Av, cv, rfl, -⟩ := S.out.own.form
      rw [hlen] at S
      obtain ⟨q, hq⟩ : ∃ q, (f + by_) % p = q := ⟨_, rfl⟩
      rw [hq] at HT R
      have HLN := Lib.hid hlen
      have HO : Hid (wr.ownsRow (n1 + 1) 42 3 (.slice Av k cv) k (rowT3 ((ts.map (laterT by_)).take k))) := Lib.hid (by have := S.out.own; unfold OwnT at this; rwa [hlen] at this)
      have hsz := S.out.siz
      have hle := S.out.le
      have HNE : Hid ((Value.slice Av k cv).ownBlock ≠ some wr.heap.size) := Lib.hid fun e => by have := (HO.out.lt _ e).2; omega
      have HLT := Lib.hid fun q (hq : q ∈ (Value.ownBlock (.slice Av k cv)).toList) => HO.out.lt q (by simpa using hq)
      have z0 := S.out.c0
      have z1 := S.out.f 0
      have hb : Below wr.heap.size wr (wr.alloc (.cells #[.int .i64 p, .int .i64 q, .int .i64 l] 42)) := (Below.refl _ _).alloc (Nat.le_refl _) _
      have z2 := (hb.cell (p := ⟨n1, 0, none⟩) (by show n1 < _; omega)).trans z0
      clear hb z0
      clear c0 c1 c2 ht hcs hq hlen
      go_wp2_with (first | (go_at_call 38; refine (R.out _).mono ?_; rintro e w4 ⟨rfl, rfl⟩) | (at_builtin; refine wpList_append_own _ rfl _ _ 22 rfl (n1 + 1) 42 i0 (.agg #[.int .i64 0, .int .i64 0, .int .i64 0]) 3 24 Tryz.underlying22 hi hz0 hz1 hz2 rfl (by decide) _ k _ rfl ((HO.out.alloc _).alloc _) ⟨wr.heap.size + 1, 0, none⟩ 1 1 [.int .i64 p, .int .i64 q, .int .i64 l] rfl rfl (cell_lit3 (by simp)) (one3 _ _ _) (by unfold maxLen; omega) (by omega) (by simp; omega) ?_))
      all_goals
        intro v' w4 hown' hgrow _
        obtain ⟨g', cap', rfl⟩ := rowT_succ hown'
        have hga : GrownL (Value.ownBlock (.slice Av k cv)).toList wr w4 := ((GrownL.of_below ((Below.refl _ _).alloc (Nat.le_refl _) _)).trans (GrownL.of_below ((Below.refl _ _).alloc (Nat.le_refl _) _))).trans (GrownL.of_by' hgrow)
        have hnn : n1 ∉ (Value.ownBlock (.slice Av k cv)).toList := fun hm => by have := HLT.out _ hm; omega
        have c4 : w4.cell? ⟨n1, 0, none⟩ = some (.slice Av k cv) := hga.cell S.out.c0 hnn
        have f4 : w4.frozen? ⟨n1, 0, none⟩ = false := (World.frozen?_of_block (a := ⟨n1, 0, none⟩) (hga.block _ (by show n1 < _; omega) hnn)).trans (S.out.f 0)
        have RS := Lib.hid ((S.out.more hga HLN.out (x := (p, q, l)) hown').cast HT.out)
        have RN := Lib.hid ((N.out.grownL hga (fun b hb => by have := HLT.out _ hb; omega)).grownL (GrownL.set (bs := [n1]) w4 ⟨n1, 0, none⟩ (.slice (some ⟨g', 0, none⟩) (k + 1) cap') (by simp)) (fun b hb => by simp at hb; omega))
        clear hown' hgrow hga hnn
        go_wp2_with fail
        go_roundw
        · exact ⟨k + 1, _, by go_num, by omega, RS.out, RN.out⟩
        · show ts.length - ((k : Int) + 1).toNat < ts.length - (k : Int).toNat; omega
    · have hkk : (ts.length : Int) ≤ (k : Int) := by omega
      have hE : Hid ((ts.map (laterT by_)).take k = ts.map (laterT by_)) := Lib.hid (by rw [List.take_of_length_le (by simp; omega)])
      obtain ⟨Av, cv, rfl, -⟩ := S.out.own.form
      generalize ((ts.map (laterT by_)).take k).length = n at *
      have z0 := S.out.c0
      have z1 := S.out.c1
      have z2 := S.out.c2
      obtain ⟨x0, x1, x2, f0, f1, f2⟩ := S.out.rres
      have Q := Lib.hid (set3 x0 x1 x2 (.slice Av n cv) (.slice none 0 0) (.int .i64 0))
      go_wp2_with fail
      refine bodyPost_ret (v := .agg #[.slice Av n cv, .slice none 0 0, .int .i64 0]) ?_ rfl ?_
      · obtain ⟨q0, q1, q2⟩ := Q.out
        simp [results, Tryz.results9, go_sem, q0, q1, q2]
      · have hle := S.out.le
        have gg := ((GrownL.set (bs := [w.heap.size + 1]) wr ⟨w.heap.size + 1, 0, none⟩ (.slice Av n cv) (by simp)).trans (GrownL.set (bs := [w.heap.size + 1]) _ ⟨w.heap.size + 1, 1, none⟩ (.slice none 0 0) (by simp))).trans (GrownL.set (bs := [w.heap.size + 1]) _ ⟨w.heap.size + 1, 2, none⟩ (.int .i64 0) (by simp))
        have ho := S.out.own.grown gg (fun q hq hm => by have := S.out.own.lt q hq; simp at hm; omega)
        rw [hE.out] at ho
        exact ⟨.slice Av n cv, _, 0, rfl, ho.rt (by simp; omega), below_set3 N.out.bel (by omega) _ _ _, HP.out⟩
end Go.Proofs.YtcdodfehnkgjdaaGreatDoor

/- What a union is; contract of the specification's Union where a set is not right. -/
namespace Go.Proofs.YtcdodfehnkgjdaaGreatDoor
open Go.RowKit

/-- What Union returns. -/
def UnionIs (ta : List T3) (sa : List S2) (tb : List T3) (sb : List S2) (ca cb : Int) (tu : List T3) (su : List S2) (d : Int) : Prop :=
  (ca ≠ 0 ∧ tu = [] ∧ su = [] ∧ d = ca) ∨ (ca = 0 ∧ cb ≠ 0 ∧ tu = [] ∧ su = [] ∧ d = cb) ∨
  (ca = 0 ∧ cb = 0 ∧ ∃ sj, JoinedOf (sa ++ sb) sj ∧ (((onceL (ta ++ tb)).length ≤ 24 ∧ sj.length ≤ 40 ∧ tu = onceL (ta ++ tb) ∧ su = sj ∧ d = 0) ∨ ((24 < (onceL (ta ++ tb)).length ∨ 40 < sj.length) ∧ tu = [] ∧ su = [] ∧ d = 2)))
theorem JoinedOf.unique {l a b : List S2} (h : JoinedOf l a) (h' : JoinedOf l b) : a = b := apart_unique a b h.1 h'.1 (fun m => (h.2 m).trans (h'.2 m).symm)
theorem UnionIs.unique {ta tb tu tu' : List T3} {sa sb su su' : List S2} {ca cb d d' : Int} (h : UnionIs ta sa tb sb ca cb tu su d) (h' : UnionIs ta sa tb sb ca cb tu' su' d') : tu = tu' ∧ su = su' ∧ d = d' := by
  rcases h with ⟨a, rfl, rfl, rfl⟩ | ⟨a, b, rfl, rfl, rfl⟩ | ⟨a, b, sj, hj, h⟩ <;> rcases h' with ⟨x, rfl, rfl, rfl⟩ | ⟨x, y, rfl, rfl, rfl⟩ | ⟨x, y, sk, hk, h'⟩
  · exact ⟨rfl, rfl, rfl⟩
  · omega
  · omega
  · omega
  · exact ⟨rfl, rfl, rfl⟩
  · omega
  · omega
  · omega
  · obtain rfl := hj.unique hk
    rcases h with ⟨p, q, rfl, rfl, rfl⟩ | ⟨p, rfl, rfl, rfl⟩ <;> rcases h' with ⟨u, v, rfl, rfl, rfl⟩ | ⟨u, rfl, rfl, rfl⟩
    · exact ⟨rfl, rfl, rfl⟩
    · omega
    · omega
    · exact ⟨rfl, rfl, rfl⟩
def RUnionPost (ta : List T3) (sa : List S2) (tb : List T3) (sb : List S2) (ca cb : Int) (w : World) (e : Ending) (w' : World) : Prop :=
  ∃ v u tu su d, e = .returned (.agg #[v, u, .int .i64 d]) ∧ RT w'.heap.size v tu w' ∧ RS w'.heap.size u su w' ∧ Below w.heap.size w w' ∧ UnionIs ta sa tb sb ca cb tu su d

/-- Two sets in their blocks, the result in the next. -/
def UnX (w : World) (v0 v1 u0 u1 : Value) (W : World) : Prop :=
  N2d w v0 v1 u0 u1 W ∧ W.heap[w.heap.size + 2]? = some (.cells #[.slice none 0 0, .slice none 0 0, .int .i64 0] 31 (0, 0)) ∧ w.heap.size + 3 ≤ W.heap.size
section
variable {w W W' : World} {v0 v1 u0 u1 : Value}
theorem UnX.below (h : UnX w v0 v1 u0 u1 W) (hb : Below W.heap.size W W') : UnX w v0 v1 u0 u1 W' := ⟨h.1.below hb, (hb.block _ (by have := h.2.2; omega)).trans h.2.1, Nat.le_trans h.2.2 hb.size⟩
theorem UnX.new (w : World) (v0 v1 u0 u1 : Value) : UnX w v0 v1 u0 u1 (((w.alloc (.cells #[v0, v1] 25)).alloc (.cells #[u0, u1] 25)).alloc (.cells #[.slice none 0 0, .slice none 0 0, .int .i64 0] 31)) := by
  refine ⟨(N2d.new _ _).alloc _, ?_, by simp⟩
  have := World.alloc_heap_new ((w.alloc (.cells #[v0, v1] 25)).alloc (.cells #[u0, u1] 25)) (.cells #[.slice none 0 0, .slice none 0 0, .int .i64 0] 31)
  simpa using this
theorem UnX.res (h : UnX w v0 v1 u0 u1 W) : W.cell? ⟨w.heap.size + 2, 0, none⟩ = some (.slice none 0 0) ∧ W.cell? ⟨w.heap.size + 2, 1, none⟩ = some (.slice none 0 0) ∧ W.cell? ⟨w.heap.size + 2, 2, none⟩ = some (.int .i64 0) ∧ W.frozen? ⟨w.heap.size + 2, 0, none⟩ = false ∧ W.frozen? ⟨w.heap.size + 2, 1, none⟩ = false ∧ W.frozen? ⟨w.heap.size + 2, 2, none⟩ = false :=
  ⟨by simp [World.cell?, h.2.1], by simp [World.cell?, h.2.1], by simp [World.cell?, h.2.1], by simp [World.frozen?, h.2.1], by simp [World.frozen?, h.2.1], by simp [World.frozen?, h.2.1]⟩
end

set_option maxHeartbeats 8000000 in
set_option maxRecDepth 1000000 in
theorem runion_err (A A' B B' : Option Addr) (m ca m' ca' k cb k' cb' : Nat) (ta tb : List T3) (sa sb : List S2) (c d : Int) (w : World) (h : RM w.heap.size (.agg #[.slice A m ca, .slice A' m' ca']) ta sa w) (h' : RM w.heap.size (.agg #[.slice B k cb, .slice B' k' cb']) tb sb w) (hc : CheckIs ta sa c) (hc' : CheckIs tb sb d) (h0 : c ≠ 0 ∨ d ≠ 0) :
    Calls Tryz.prog 7 #[.agg #[.slice A m ca, .slice A' m' ca'], .agg #[.slice B k cb, .slice B' k' cb']] w (RUnionPost ta sa tb sb c d w) := by
  have C := Lib.hid fun W (S : N2d w (.slice A m ca) (.slice A' m' ca') (.slice B k cb) (.slice B' k' cb') W) => rcheck_rm (h.up S.siz S.bel) hc
  have C' := Lib.hid fun W (S : N2d w (.slice A m ca) (.slice A' m' ca') (.slice B k cb) (.slice B' k' cb') W) => rcheck_rm (h'.up S.siz S.bel) hc'
  have S0 := Lib.hid (UnX.new w (.slice A m ca) (.slice A' m' ca') (.slice B k cb) (.slice B' k' cb'))
  by_cases hc0 : c = 0
  · subst hc0
    have hd : d ≠ 0 := by rcases h0 with h0 | h0; exact absurd rfl h0; exact h0
    have HP : Hid (UnionIs ta sa tb sb 0 d [] [] d) := Lib.hid (.inr (.inl ⟨rfl, hd, rfl, rfl, rfl⟩))
    have hb0 : (d != 0) = true := by rw [bne_iff_ne]; exact hd
    clear h h' hc hc' h0 hd
    go_enter Tryz.func7, Tryz.ntmps7
    go_wp2_with fail
    refine (C.out _ S0.out.1).mono ?_
    rintro e w1 ⟨rfl, h1⟩
    have S := Lib.hid (S0.out.below h1)
    clear h1 S0
    obtain ⟨t0, t1, t2, t3, t4, _⟩ := S.out.1.out
    go_wp2_with fail
    refine (C'.out _ S.out.1).mono ?_
    rintro e w2 ⟨rfl, h2⟩
    have S := Lib.hid (S.out.below h2)
    clear h2 t0 t1 t2 t3 t4
    obtain ⟨x0, x1, x2, f0, f1, f2⟩ := S.out.res
    have Q := Lib.hid (set3 x0 x1 x2 (.slice none 0 0) (.slice none 0 0) (.int .i64 d))
    go_wp2_with fail
    refine bodyPost_ret (v := .agg #[.slice none 0 0, .slice none 0 0, .int .i64 d]) ?_ rfl ?_
    · obtain ⟨q0, q1, q2⟩ := Q.out
      simp [results, Tryz.results7, go_sem, q0, q1, q2]
    · exact ⟨_, _, [], [], d, rfl, rt_nil _ _, rs_nil _ _, below_set3 S.out.1.bel (by omega) _ _ _, HP.out⟩
  · have HP : Hid (UnionIs ta sa tb sb c d [] [] c) := Lib.hid (.inl ⟨hc0, rfl, rfl, rfl⟩)
    have hb0 : (c != 0) = true := by rw [bne_iff_ne]; exact hc0
    clear h h' hc hc' h0 hc0
    go_enter Tryz.func7, Tryz.ntmps7
    go_wp2_with fail
    refine (C.out _ S0.out.1).mono ?_
    rintro e w1 ⟨rfl, h1⟩
    have S := Lib.hid (S0.out.below h1)
    clear h1 S0
    obtain ⟨x0, x1, x2, f0, f1, f2⟩ := S.out.res
    have Q := Lib.hid (set3 x0 x1 x2 (.slice none 0 0) (.slice none 0 0) (.int .i64 c))
    go_wp2_with fail
    refine bodyPost_ret (v := .agg #[.slice none 0 0, .slice none 0 0, .int .i64 c]) ?_ rfl ?_
    · obtain ⟨q0, q1, q2⟩ := Q.out
      simp [results, Tryz.results7, go_sem, q0, q1, q2]
    · exact ⟨_, _, [], [], c, rfl, rt_nil _ _, rs_nil _ _, below_set3 S.out.1.bel (by omega) _ _ _, HP.out⟩
end Go.Proofs.YtcdodfehnkgjdaaGreatDoor

/- Contract of the specification's Union: its turns. -/
namespace Go.Proofs.YtcdodfehnkgjdaaGreatDoor
open Go.RowKit

/-- What Union keeps between two turns. -/
def UoL (w : World) (v0 v1 u0 u1 : Value) (n1 : Nat) (v : Value) (l : List T3) (W : World) : Prop :=
  OutL (w.heap.size + 2) n1 v (.slice none 0 0) l W ∧ N2d w v0 v1 u0 u1 W
theorem UoL.o {w W : World} {v0 v1 u0 u1 v : Value} {n1 : Nat} {l : List T3} (h : UoL w v0 v1 u0 u1 n1 v l W) : OutL (w.heap.size + 2) n1 v (.slice none 0 0) l W := h.1
theorem UoL.n {w W : World} {v0 v1 u0 u1 v : Value} {n1 : Nat} {l : List T3} (h : UoL w v0 v1 u0 u1 n1 v l W) : N2d w v0 v1 u0 u1 W := h.2
theorem UoL.below {w W W' : World} {v0 v1 u0 u1 v : Value} {n1 : Nat} {l : List T3} (h : UoL w v0 v1 u0 u1 n1 v l W) (hb : Below W.heap.size W W') : UoL w v0 v1 u0 u1 n1 v l W' := ⟨h.1.below hb, h.2.below hb⟩
theorem UoL.cast {w W : World} {v0 v1 u0 u1 v : Value} {n1 : Nat} {l l' : List T3} (h : UoL w v0 v1 u0 u1 n1 v l W) (e : l' = l) : UoL w v0 v1 u0 u1 n1 v l' W := e ▸ h
theorem UoL.more {w W w4 : World} {v0 v1 u0 u1 : Value} {Av : Option Addr} {n1 n cv g' cap' : Nat} {l : List T3} {p f m : Int} (h : UoL w v0 v1 u0 u1 n1 (.slice Av n cv) l W) (hn : l.length = n) (hga : GrownL (Value.ownBlock (.slice Av n cv)).toList W w4)
    (hown : w4.ownsRow (n1 + 1) 42 3 (.slice (some ⟨g', 0, none⟩) (n + 1) cap') (n + 1) (rowT3 l ++ [.int .i64 p, .int .i64 f, .int .i64 m])) :
    UoL w v0 v1 u0 u1 n1 (.slice (some ⟨g', 0, none⟩) (n + 1) cap') (l ++ [(p, f, m)]) (w4.setCell ⟨n1, 0, none⟩ (.slice (some ⟨g', 0, none⟩) (n + 1) cap')) := by
  have hle := h.o.le
  have hlt := fun q (hq : q ∈ (Value.ownBlock (.slice Av n cv)).toList) => h.o.own.lt q (by simpa using hq)
  exact ⟨h.o.more hga hn (x := (p, f, m)) hown, (h.n.grownL hga (fun b hb => by have := hlt _ hb; omega)).grownL (GrownL.set (bs := [n1]) w4 ⟨n1, 0, none⟩ (.slice (some ⟨g', 0, none⟩) (n + 1) cap') (by simp)) (fun b hb => by simp at hb; omega)⟩
theorem UoL.stored {w W w4 : World} {v0 v1 u0 u1 : Value} {Av : Option Addr} {n1 n cv : Nat} {l : List T3} (h : UoL w v0 v1 u0 u1 n1 (.slice Av n cv) l W) (hga : GrownL (Value.ownBlock (.slice Av n cv)).toList W w4) :
    w4.cell? ⟨n1, 0, none⟩ = some (.slice Av n cv) ∧ w4.frozen? ⟨n1, 0, none⟩ = false := by
  have hs := h.o.siz
  have hlt := fun q (hq : q ∈ (Value.ownBlock (.slice Av n cv)).toList) => h.o.own.lt q (by simpa using hq)
  have hnn : n1 ∉ (Value.ownBlock (.slice Av n cv)).toList := fun hm => by have := hlt _ hm; omega
  exact ⟨hga.cell h.o.c0 hnn, (World.frozen?_of_block (a := ⟨n1, 0, none⟩) (hga.block _ (by show n1 < _; omega) hnn)).trans (h.o.f 0)⟩

theorem OutL.spans {rb n1 : Nat} {v s : Value} {l : List T3} {W : World} (h : OutL rb n1 v s l W) (s' : Value) : OutL rb n1 v s' l (W.setCell ⟨n1, 1, none⟩ s') := by
  have hs := h.siz
  have hle := h.le
  have gs := GrownL.set (bs := [n1]) W ⟨n1, 1, none⟩ s' (by simp)
  refine ⟨h.own.grown gs (fun q hq hm => by have := h.own.lt q hq; simp at hm; omega), (gs.block _ (by omega) (by simp; omega)).trans h.res, ?_, World.cell?_setCell_same' _ _ _ (by rw [h.c1]; rfl), ?_, fun j => ?_, hle, by have := gs.size; omega⟩
  · rw [World.cell?_setCell_other _ _ _ _ (by simp)]; exact h.c0
  · rw [World.cell?_setCell_other _ _ _ _ (by simp)]; exact h.c2
  · rw [World.frozen?_setCell]; exact h.f j
theorem spOk_app {ta tb : List T3} {sa sb : List S2} (h : AllOk ta sa ∧ AllOk tb sb) : SpOk (sa ++ sb) := fun x hx => by
  rcases List.mem_append.1 hx with hx | hx
  · exact h.1.2 x hx
  · exact h.2.2 x hx
/-- Spans are appended to a list of one's own. -/
theorem app_spans {w W : World} {base n c : Nat} {v : Value} {xs ys : List S2} {A : Option Addr} (hv : OwnS base v xs W) (hy : RS w.heap.size (.slice A n c) ys w) (hb : Below w.heap.size w W) (hbase : base ≤ W.heap.size) (_ : w.heap.size ≤ base) (h1 : xs.length ≤ 1000) (h2 : ys.length ≤ 1000) :
    ∃ v' W', (Builtin.append_ #[23, 23] 23 #[v, .slice A n c]).run Tryz.prog W = .ok v' W' ∧ OwnS base v' (xs ++ ys) W' ∧ Below base W W' ∧ base ≤ W'.heap.size := by
  obtain ⟨i0, hi, hz0, hz1, hz2⟩ := info_parts infoSpan
  obtain ⟨rfl, ha⟩ := hy.news
  obtain ⟨v', W', k1, k2, k3, k4⟩ := app_row (P := Tryz.prog) W base 23 23 45 i0 (.agg #[.int .i64 0, .int .i64 0]) 2 16 Tryz.underlying23 hi hz0 hz1 hz2 rfl (by decide) v xs.length (cells2 xs) hv A ys.length c (cells2 ys) (cells2_len _) (fun hp => by
    obtain ⟨a, e, l, hc⟩ := ha hp
    exact ⟨a, e, fun j u hj => (hb.cell (by rw [add_block]; exact l)).trans (hc j u hj)⟩) cells2_one (by unfold maxLen; omega) (by omega) hbase
  refine ⟨v', W', k1, ?_, (GrownL.of_row k3).below (fun b hb => by have := hv.lt b (by simpa using hb); omega) hbase, Nat.le_trans hbase k3.size⟩
  unfold OwnS
  rw [cells2_app, List.length_append]
  exact k2

set_option maxHeartbeats 16000000 in
set_option maxRecDepth 1000000 in
theorem runion_ok (A A' B B' : Option Addr) (m ca m' ca' k cb k' cb' : Nat) (ta tb : List T3) (sa sb : List S2) (w : World) (h : RM w.heap.size (.agg #[.slice A m ca, .slice A' m' ca']) ta sa w) (h' : RM w.heap.size (.agg #[.slice B k cb, .slice B' k' cb']) tb sb w) (hc : CheckIs ta sa 0) (hc' : CheckIs tb sb 0) :
    Calls Tryz.prog 7 #[.agg #[.slice A m ca, .slice A' m' ca'], .agg #[.slice B k cb, .slice B' k' cb']] w (RUnionPost ta sa tb sb 0 0 w) := by
  obtain ⟨i0, hi, hz0, hz1, hz2⟩ := info_parts infoTurn
  obtain ⟨k1, k2, k3⟩ := checkIs_ok hc
  obtain ⟨l1, l2, l3⟩ := checkIs_ok hc'
  have C := Lib.hid fun W (S : N2d w (.slice A m ca) (.slice A' m' ca') (.slice B k cb) (.slice B' k' cb') W) => rcheck_rm (h.up S.siz S.bel) hc
  have C' := Lib.hid fun W (S : N2d w (.slice A m ca) (.slice A' m' ca') (.slice B k cb) (.slice B' k' cb') W) => rcheck_rm (h'.up S.siz S.bel) hc'
  have S0 := Lib.hid (UnX.new w (.slice A m ca) (.slice A' m' ca') (.slice B k cb) (.slice B' k' cb'))
  obtain ⟨A1, n1, c1, A2, n2, c2, e, hr1, hr2⟩ := h
  simp only [Value.agg.injEq, Array.mk.injEq, List.cons.injEq, Value.slice.injEq, and_true] at e
  obtain ⟨⟨rfl, rfl, rfl⟩, rfl, rfl, rfl⟩ := e
  obtain ⟨_, _, e, _, hx⟩ := hr1
  simp only [Value.slice.injEq] at e
  obtain ⟨rfl, rfl, rfl⟩ := e
  obtain ⟨A1, n1, c1, A2, n2, c2, e, hr3, hr4⟩ := h'
  simp only [Value.agg.injEq, Array.mk.injEq, List.cons.injEq, Value.slice.injEq, and_true] at e
  obtain ⟨⟨rfl, rfl, rfl⟩, rfl, rfl, rfl⟩ := e
  obtain ⟨_, _, e, _, hy⟩ := hr3
  simp only [Value.slice.injEq] at e
  obtain ⟨rfl, rfl, rfl⟩ := e
  have HX := Lib.hid hx
  have HY := Lib.hid hy
  have HR2 := Lib.hid hr2
  have HR4 := Lib.hid hr4
  have hal : (ta ++ tb).length = ta.length + tb.length := List.length_append
  have W0 : IntKind.i64.wrap ((ta.length : Int) + (tb.length : Int)) = (ta.length : Int) + tb.length := IntWalk.i64_in _ (by omega)
  have HAL : Hid (AllOk ta sa ∧ AllOk tb sb) := Lib.hid ⟨k3, l3⟩
  clear hc hc' hx hy hr2 hr4 k3 l3
  go_enter Tryz.func7, Tryz.ntmps7
  go_wp2_with fail
  refine (C.out _ S0.out.1).mono ?_
  rintro e w1 ⟨rfl, h1⟩
  have S := Lib.hid (S0.out.below h1)
  clear h1 S0
  obtain ⟨t0, t1, t2, t3, t4, _⟩ := S.out.1.out
  go_wp2_with fail
  refine (C'.out _ S.out.1).mono ?_
  rintro e w2 ⟨rfl, h2⟩
  have S := Lib.hid (S.out.below h2)
  clear h2 t0 t1 t2 t3 t4 C C'
  obtain ⟨n1, hn1⟩ : ∃ n, n = w2.heap.size := ⟨_, rfl⟩
  have U0 : Hid (UoL w (.slice A ta.length ca) (.slice A' m' ca') (.slice B tb.length cb) (.slice B' k' cb') n1 (.slice none 0 0) (onceL ((ta ++ tb).take 0)) (w2.alloc (.cells #[.slice none 0 0, .slice none 0 0, .int .i64 0] 31))) := Lib.hid (by rw [hn1]; exact ⟨OutL.new w2 _ S.out.2.1, S.out.1.alloc _⟩)
  go_wp2_with fail
  rw [← hn1]
  clear hn1 S
  go_loopw [7] (fun u wr => ∃ (k : Nat) (v : Value), u = .int .i64 k ∧ k ≤ ta.length + tb.length ∧ UoL w (.slice A ta.length ca) (.slice A' m' ca') (.slice B tb.length cb) (.slice B' k' cb') n1 v (onceL ((ta ++ tb).take k)) wr) (fun u _ => ta.length + tb.length - (intOf u).toNat)
  case atStart => exact ⟨0, _, rfl, by omega, U0.out⟩
  case round =>
    obtain ⟨k, v, rfl, hk, hS⟩ := hrel
    have S := Lib.hid hS
    obtain ⟨t0, t1, t2, t3, t4, _⟩ := hS.n.out
    clear hS U0
    by_cases hkl : k < ta.length + tb.length
    · have hk0 : (k : Int) < (ta.length : Int) + (tb.length : Int) := by omega
      obtain ⟨⟨p, f, q⟩, ht⟩ : ∃ t, (ta ++ tb)[k]? = some t := ⟨_, List.getElem?_eq_getElem (by omega)⟩
      have HT : Hid (onceL ((ta ++ tb).take (k + 1)) = addT (onceL ((ta ++ tb).take k)) (p, f, q)) := Lib.hid (onceL_take ht)
      have hlen : (onceL ((ta ++ tb).take k)).length ≤ k := Nat.le_trans (onceL_len _) (by simp; omega)
      obtain ⟨acc, ha⟩ : ∃ acc, onceL ((ta ++ tb).take k) = acc := ⟨_, rfl⟩
      rw [ha] at S HT hlen
      obtain ⟨Av, cv, rfl, -⟩ := S.out.o.own.form
      obtain ⟨n, hn⟩ : ∃ n, acc.length = n := ⟨_, rfl⟩
      rw [hn] at S hlen
      have HN := Lib.hid hn
      have HO : Hid (wr.ownsRow (n1 + 1) 42 3 (.slice Av n cv) n (rowT3 acc)) := Lib.hid (by have := S.out.o.own; unfold OwnT at this; rwa [hn] at this)
      have HRT : Hid (RT wr.heap.size (.slice Av n cv) acc wr) := Lib.hid (S.out.o.own.rt (by omega))
      have HH := Lib.hid fun W (hb : Below wr.heap.size wr W) => hasTurn_any (.slice Av n cv) acc p f q W (HRT.out.up hb.size hb)
      have hsz := S.out.o.siz
      have hb0 : Hid (Below wr.heap.size wr (wr.alloc (.cells #[.int .i64 0, .int .i64 0, .int .i64 0] 42))) := Lib.hid ((Below.refl _ _).alloc (Nat.le_refl _) _)
      have hb1 : Hid (Below wr.heap.size wr (wr.alloc (.cells #[.int .i64 p, .int .i64 f, .int .i64 q] 42))) := Lib.hid ((Below.refl _ _).alloc (Nat.le_refl _) _)
      obtain ⟨s0, s1, s2, s3, s4, _⟩ := (S.out.n.below hb0.out).out
      have z0 := ((S.out.below hb1.out).o).c0
      have g0 : (wr.alloc (.cells #[.int .i64 p, .int .i64 f, .int .i64 q] 42)).cell? ⟨wr.heap.size, 0, none⟩ = some (.int .i64 p) := by simp [go_sem]
      have g1 : (wr.alloc (.cells #[.int .i64 p, .int .i64 f, .int .i64 q] 42)).cell? ⟨wr.heap.size, 1, none⟩ = some (.int .i64 f) := by simp [go_sem]
      have g2 : (wr.alloc (.cells #[.int .i64 p, .int .i64 f, .int .i64 q] 42)).cell? ⟨wr.heap.size, 2, none⟩ = some (.int .i64 q) := by simp [go_sem]
      by_cases hka : k < ta.length
      · obtain ⟨b, o, rfl, hbB, hcs⟩ := HX.out (by omega)
        have ht2 : ta[k]? = some (p, f, q) := by rw [← ht, List.getElem?_append_left hka]
        obtain ⟨c0, c1, c2⟩ := hcs k p f q ht2
        have hka0 : (k : Int) < (ta.length : Int) := by omega
        have hbl : b < wr.heap.size := Nat.lt_of_lt_of_le hbB S.out.n.siz
        have d0 := (hb0.out.cell (p := ⟨b, o + k * 3, none⟩) hbl).trans ((S.out.n.bel.cell (p := ⟨b, o + k * 3, none⟩) hbB).trans c0)
        have d1 := (hb0.out.cell (p := ⟨b, o + k * 3 + 1, none⟩) hbl).trans ((S.out.n.bel.cell (p := ⟨b, o + k * 3 + 1, none⟩) hbB).trans c1)
        have d2 := (hb0.out.cell (p := ⟨b, o + k * 3 + 2, none⟩) hbl).trans ((S.out.n.bel.cell (p := ⟨b, o + k * 3 + 2, none⟩) hbB).trans c2)
        clear c0 c1 c2 ht ht2 hcs hn ha
        by_cases hm : (p, f, q) ∈ acc
        · have HE : Hid (onceL ((ta ++ tb).take (k + 1)) = acc) := Lib.hid (by rw [HT.out]; exact if_pos hm)
          rw [decide_eq_true hm] at HH
          clear hm HT
          go_wp2_with (first | (go_at_call 33; refine (HH.out _ hb1.out).mono ?_; rintro e w5 ⟨rfl, h5⟩; have hB5 : Hid (Below wr.heap.size wr w5) := Lib.hid (hb1.out.trans (h5.mono (by simp))); have z5 := ((S.out.below hB5.out).o).c0; have e0 := (h5.cell (p := ⟨wr.heap.size, 0, none⟩) (by simp)).trans g0; have e1 := (h5.cell (p := ⟨wr.heap.size, 1, none⟩) (by simp)).trans g1; have e2 := (h5.cell (p := ⟨wr.heap.size, 2, none⟩) (by simp)).trans g2; have HO5 := Lib.hid (ownsRow_grownL HO.out (GrownL.of_below (bs := []) hB5.out) (by simp)); clear h5))
          go_roundw
          case rel => exact ⟨k + 1, _, by go_num, by omega, (S.out.below hB5.out).cast HE.out⟩
          case measure => show ta.length + tb.length - ((k : Int) + 1).toNat < ta.length + tb.length - (k : Int).toNat; omega
        · have HE : Hid (onceL ((ta ++ tb).take (k + 1)) = acc ++ [(p, f, q)]) := Lib.hid (by rw [HT.out]; exact if_neg hm)
          rw [decide_eq_false hm] at HH
          clear hm HT
          go_wp2_with (first | (go_at_call 33; refine (HH.out _ hb1.out).mono ?_; rintro e w5 ⟨rfl, h5⟩; have hB5 : Hid (Below wr.heap.size wr w5) := Lib.hid (hb1.out.trans (h5.mono (by simp))); have z5 := ((S.out.below hB5.out).o).c0; have e0 := (h5.cell (p := ⟨wr.heap.size, 0, none⟩) (by simp)).trans g0; have e1 := (h5.cell (p := ⟨wr.heap.size, 1, none⟩) (by simp)).trans g1; have e2 := (h5.cell (p := ⟨wr.heap.size, 2, none⟩) (by simp)).trans g2; have HO5 := Lib.hid (ownsRow_grownL HO.out (GrownL.of_below (bs := []) hB5.out) (by simp)); clear h5) | (at_builtin; refine wpList_append_own _ rfl _ _ 22 rfl (n1 + 1) 42 i0 (.agg #[.int .i64 0, .int .i64 0, .int .i64 0]) 3 24 Tryz.underlying22 hi hz0 hz1 hz2 rfl (by decide) _ n _ rfl (HO5.out.alloc _) ⟨w5.heap.size, 0, none⟩ 1 1 [.int .i64 p, .int .i64 f, .int .i64 q] rfl rfl (cell_lit3 rfl) (one3 _ _ _) (by unfold maxLen; omega) (by omega) (by have := hB5.out.size; simp; omega) ?_))
          all_goals
            intro v' w6 hown' hgrow _
            obtain ⟨g', cap', rfl⟩ := rowT_succ hown'
            have hga := ((GrownL.of_below (bs := (Value.ownBlock (.slice Av n cv)).toList) hB5.out).trans (GrownL.of_below ((Below.refl _ _).alloc (Nat.le_refl _) _))).trans (GrownL.of_by' hgrow)
            obtain ⟨c6, f6⟩ := S.out.stored hga
            have R := Lib.hid ((S.out.more HN.out hga hown').cast HE.out)
            clear hown' hgrow hga
            go_wp2_with fail
            go_roundw
            · exact ⟨k + 1, _, by go_num, by omega, R.out⟩
            · show ta.length + tb.length - ((k : Int) + 1).toNat < ta.length + tb.length - (k : Int).toNat; omega
      · obtain ⟨j, rfl⟩ : ∃ j, k = ta.length + j := ⟨k - ta.length, by omega⟩
        obtain ⟨b, o, rfl, hbB, hcs⟩ := HY.out (by omega)
        have ht2 : tb[j]? = some (p, f, q) := by rw [← ht, List.getElem?_append_right (by omega)]; congr 1; omega
        obtain ⟨c0, c1, c2⟩ := hcs j p f q ht2
        have hka0 : (ta.length : Int) ≤ ((ta.length + j : Nat) : Int) := by omega
        have hj0 : (j : Int) < (tb.length : Int) := by omega
        have W3 : IntKind.i64.wrap (((ta.length + j : Nat) : Int) - (ta.length : Int)) = (j : Int) := by rw [show ((ta.length + j : Nat) : Int) - (ta.length : Int) = j by omega]; exact IntWalk.i64_in _ (by omega)
        have hbl : b < wr.heap.size := Nat.lt_of_lt_of_le hbB S.out.n.siz
        have d0 := (hb0.out.cell (p := ⟨b, o + j * 3, none⟩) hbl).trans ((S.out.n.bel.cell (p := ⟨b, o + j * 3, none⟩) hbB).trans c0)
        have d1 := (hb0.out.cell (p := ⟨b, o + j * 3 + 1, none⟩) hbl).trans ((S.out.n.bel.cell (p := ⟨b, o + j * 3 + 1, none⟩) hbB).trans c1)
        have d2 := (hb0.out.cell (p := ⟨b, o + j * 3 + 2, none⟩) hbl).trans ((S.out.n.bel.cell (p := ⟨b, o + j * 3 + 2, none⟩) hbB).trans c2)
        obtain ⟨k, hkk⟩ : ∃ k, ta.length + j = k := ⟨_, rfl⟩
        rw [hkk] at hk hkl hk0 HT hlen hka0 W3 ⊢
        clear c0 c1 c2 ht ht2 hcs hn ha hkk
        by_cases hm : (p, f, q) ∈ acc
        · have HE : Hid (onceL ((ta ++ tb).take (k + 1)) = acc) := Lib.hid (by rw [HT.out]; exact if_pos hm)
          rw [decide_eq_true hm] at HH
          clear hm HT
          go_wp2_with (first | (go_at_call 33; refine (HH.out _ hb1.out).mono ?_; rintro e w5 ⟨rfl, h5⟩; have hB5 : Hid (Below wr.heap.size wr w5) := Lib.hid (hb1.out.trans (h5.mono (by simp))); have z5 := ((S.out.below hB5.out).o).c0; have e0 := (h5.cell (p := ⟨wr.heap.size, 0, none⟩) (by simp)).trans g0; have e1 := (h5.cell (p := ⟨wr.heap.size, 1, none⟩) (by simp)).trans g1; have e2 := (h5.cell (p := ⟨wr.heap.size, 2, none⟩) (by simp)).trans g2; have HO5 := Lib.hid (ownsRow_grownL HO.out (GrownL.of_below (bs := []) hB5.out) (by simp)); clear h5))
          go_roundw
          case rel => exact ⟨k + 1, _, by go_num, by omega, (S.out.below hB5.out).cast HE.out⟩
          case measure => show ta.length + tb.length - ((k : Int) + 1).toNat < ta.length + tb.length - (k : Int).toNat; omega
        · have HE : Hid (onceL ((ta ++ tb).take (k + 1)) = acc ++ [(p, f, q)]) := Lib.hid (by rw [HT.out]; exact if_neg hm)
          rw [decide_eq_false hm] at HH
          clear hm HT
          go_wp2_with (first | (go_at_call 33; refine (HH.out _ hb1.out).mono ?_; rintro e w5 ⟨rfl, h5⟩; have hB5 : Hid (Below wr.heap.size wr w5) := Lib.hid (hb1.out.trans (h5.mono (by simp))); have z5 := ((S.out.below hB5.out).o).c0; have e0 := (h5.cell (p := ⟨wr.heap.size, 0, none⟩) (by simp)).trans g0; have e1 := (h5.cell (p := ⟨wr.heap.size, 1, none⟩) (by simp)).trans g1; have e2 := (h5.cell (p := ⟨wr.heap.size, 2, none⟩) (by simp)).trans g2; have HO5 := Lib.hid (ownsRow_grownL HO.out (GrownL.of_below (bs := []) hB5.out) (by simp)); clear h5) | (at_builtin; refine wpList_append_own _ rfl _ _ 22 rfl (n1 + 1) 42 i0 (.agg #[.int .i64 0, .int .i64 0, .int .i64 0]) 3 24 Tryz.underlying22 hi hz0 hz1 hz2 rfl (by decide) _ n _ rfl (HO5.out.alloc _) ⟨w5.heap.size, 0, none⟩ 1 1 [.int .i64 p, .int .i64 f, .int .i64 q] rfl rfl (cell_lit3 rfl) (one3 _ _ _) (by unfold maxLen; omega) (by omega) (by have := hB5.out.size; simp; omega) ?_))
          all_goals
            intro v' w6 hown' hgrow _
            obtain ⟨g', cap', rfl⟩ := rowT_succ hown'
            have hga := ((GrownL.of_below (bs := (Value.ownBlock (.slice Av n cv)).toList) hB5.out).trans (GrownL.of_below ((Below.refl _ _).alloc (Nat.le_refl _) _))).trans (GrownL.of_by' hgrow)
            obtain ⟨c6, f6⟩ := S.out.stored hga
            have R := Lib.hid ((S.out.more HN.out hga hown').cast HE.out)
            clear hown' hgrow hga
            go_wp2_with fail
            go_roundw
            · exact ⟨k + 1, _, by go_num, by omega, R.out⟩
            · show ta.length + tb.length - ((k : Int) + 1).toNat < ta.length + tb.length - (k : Int).toNat; omega
    · have hkk : (ta.length : Int) + (tb.length : Int) ≤ (k : Int) := by omega
      have hE : Hid (onceL ((ta ++ tb).take k) = onceL (ta ++ tb)) := Lib.hid (by rw [List.take_of_length_le (by omega)])
      rw [hE.out] at S
      obtain ⟨rfl, -⟩ := HR2.out.news
      obtain ⟨rfl, -⟩ := HR4.out.news
      have hsw := S.out.n.siz
      have B0 := S.out.n.bel
      obtain ⟨v1, W1, r1, o1, b1, s1⟩ := app_spans (base := wr.heap.size) (v := .slice none 0 0) (xs := []) (World.ownsRow_nil wr _ _ _) HR2.out B0 (Nat.le_refl _) hsw (by simp) (by omega)
      obtain ⟨v2, W2, r2, o2, b2, s2⟩ := app_spans (base := wr.heap.size) o1 HR4.out (B0.trans (b1.mono hsw)) s1 hsw (by simp; omega) (by omega)
      have R1 := Lib.hid r1
      have R2 := Lib.hid r2
      rw [List.nil_append] at o2
      have HJ := Lib.hid (rjoined_any v2 (sa ++ sb) W2 (o2.rs (by simp; omega)) (spOk_app HAL.out) (by simp; omega))
      have HB := Lib.hid (b1.trans b2)
      have z1 := ((S.out.n.below b1)).out
      obtain ⟨u0, u1, u2, u3, _, _⟩ := z1
      clear r1 r2 o1 b1 s1 o2 b2 s2 t4 HX HY HR2 HR4
      obtain ⟨acc, ha⟩ : ∃ acc, onceL (ta ++ tb) = acc := ⟨_, rfl⟩
      rw [ha] at S
      obtain ⟨Av, cv, rfl, -⟩ := S.out.o.own.form
      obtain ⟨n, hn⟩ : ∃ n, acc.length = n := ⟨_, rfl⟩
      have hnl : n ≤ 48 := by rw [← hn, ← ha]; exact Nat.le_trans (onceL_len _) (by omega)
      rw [hn] at S
      have HA := Lib.hid ha
      have HN := Lib.hid hn
      clear ha hn
      go_wp2_with (first | (at_builtin; refine Lib.wpList_append_run _ rfl _ _ _ _ rfl _ _ rfl rfl v1 W1 R1.out ?_) | (at_builtin; refine Lib.wpList_append_run _ rfl _ _ _ _ rfl _ _ rfl rfl v2 W2 R2.out ?_))
      refine HJ.out.mono ?_
      rintro e w3 ⟨v3, su, rfl, o3, j3, l3, b3⟩
      have hW2 := HB.out.size
      have S3 := Lib.hid ((S.out.below HB.out).below b3)
      obtain ⟨A3, c3, rfl, -⟩ := o3.form
      obtain ⟨ns, hns⟩ : ∃ n, su.length = n := ⟨_, rfl⟩
      have HNS := Lib.hid hns
      have HJ3 := Lib.hid j3
      have S4 := Lib.hid (S3.out.o.spans (.slice A3 su.length c3))
      have HO3 : Hid (OwnS W2.heap.size (.slice A3 su.length c3) su w3) := Lib.hid o3
      rw [hns] at S4 HO3 ⊢
      have y0 := S3.out.o.c0
      have y1 := S3.out.o.c1
      have y2 := S3.out.o.f 1
      have hbel : Hid (Below w.heap.size w w3) := Lib.hid (((S.out.n.bel).trans (HB.out.mono hsw)).trans (b3.mono (by omega)))
      have hle := S3.out.o.le
      have hsz := S.out.o.siz
      clear o3 j3 b3 hns S R1 R2 HJ HB t0 t1 t2 t3 u0 u1 u2 u3
      obtain ⟨x0, x1, x2, f0, f1, f2⟩ := S4.out.rres
      have p0 := S4.out.c0
      have p1 := S4.out.c1
      have p2 := S4.out.c2
      have hdl : ∀ x : Int, x ≤ 24 → decide (24 < x) = false := fun x hx => decide_eq_false (by omega)
      by_cases hbig : 24 < n ∨ 40 < ns
      · have HP : Hid (UnionIs ta sa tb sb 0 0 [] [] 2) := Lib.hid (.inr (.inr ⟨rfl, rfl, su, HJ3.out, .inr ⟨by rw [HA.out, HN.out, HNS.out]; exact hbig, rfl, rfl, rfl⟩⟩))
        have Q := Lib.hid (set3 x0 x1 x2 (.slice none 0 0) (.slice none 0 0) (.int .i64 2))
        have hcase : (24 : Int) < (n : Int) ∨ ((n : Int) ≤ 24 ∧ (40 : Int) < (ns : Int)) := by omega
        clear hbig
        rcases hcase with c | ⟨c, c'⟩
        all_goals
          go_wp2_with fail
          refine bodyPost_ret (v := .agg #[.slice none 0 0, .slice none 0 0, .int .i64 2]) ?_ rfl ?_
          · obtain ⟨q0, q1, q2⟩ := Q.out
            simp [results, Tryz.results7, go_sem, q0, q1, q2]
          · exact ⟨_, _, [], [], 2, rfl, rt_nil _ _, rs_nil _ _, below_set3 (hbel.out.setCell (p := ⟨n1, 1, none⟩) (by show w.heap.size ≤ n1; omega) _) (by omega) _ _ _, HP.out⟩
      · have HP : Hid (UnionIs ta sa tb sb 0 0 acc su 0) := Lib.hid (.inr (.inr ⟨rfl, rfl, su, HJ3.out, .inl ⟨by rw [HA.out, HN.out]; omega, by rw [HNS.out]; omega, HA.out.symm, rfl, rfl⟩⟩))
        have Q := Lib.hid (set3 x0 x1 x2 (.slice Av n cv) (.slice A3 ns c3) (.int .i64 0))
        have c : (n : Int) ≤ 24 := by omega
        have c' : (ns : Int) ≤ 40 := by omega
        clear hbig
        go_wp2_with fail
        refine bodyPost_ret (v := .agg #[.slice Av n cv, .slice A3 ns c3, .int .i64 0]) ?_ rfl ?_
        · obtain ⟨q0, q1, q2⟩ := Q.out
          simp [results, Tryz.results7, go_sem, q0, q1, q2]
        · have gg := (((GrownL.set (bs := [w.heap.size + 2, n1]) w3 ⟨n1, 1, none⟩ (.slice A3 ns c3) (by simp)).trans (GrownL.set (bs := [w.heap.size + 2, n1]) _ ⟨w.heap.size + 2, 0, none⟩ (.slice Av n cv) (by simp))).trans (GrownL.set (bs := [w.heap.size + 2, n1]) _ ⟨w.heap.size + 2, 1, none⟩ (.slice A3 ns c3) (by simp))).trans (GrownL.set (bs := [w.heap.size + 2, n1]) _ ⟨w.heap.size + 2, 2, none⟩ (.int .i64 0) (by simp))
          have ho := S3.out.o.own.grown gg (fun q hq hm => by have := S3.out.o.own.lt q hq; simp at hm; omega)
          have hp := HO3.out.grown gg (fun q hq hm => by have := HO3.out.lt q hq; simp at hm; omega)
          exact ⟨_, _, acc, su, 0, rfl, ho.rt (by rw [HN.out]; omega), hp.rs (by omega), below_set3 (hbel.out.setCell (p := ⟨n1, 1, none⟩) (by show w.heap.size ≤ n1; omega) _) (by omega) _ _ _, HP.out⟩
end Go.Proofs.YtcdodfehnkgjdaaGreatDoor
