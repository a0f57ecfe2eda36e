/- Contract of the specification's more: a list of spans with one minute more. -/
import Derived.Test.YtlhgpeelenelbaaGreatDoorVA
import Derived.Maps.AppendAt
import Derived.Test.YtlhgpeelenelbaaGreatDoorJK
namespace Go.Proofs.YtlhgpeelenelbaaGreatDoor
open Go.RowKit

/-- The list's value owns its row from base on. -/
def OwnS (base : Nat) (v : Value) (l : List S2) (W : World) : Prop := W.ownsRow base 27 2 v l.length (cells2 l)
def MorePost (base : Nat) (v : Value) (l : List S2) (w : World) (e : Ending) (w' : World) : Prop := ∃ v', e = .returned v' ∧ OwnS base v' l w' ∧ GrownL v.ownBlock.toList w w'
theorem OwnS.form {base : Nat} {v : Value} {l : List S2} {W : World} (h : OwnS base v l W) : ∃ A c, v = .slice A l.length c ∧ (0 < l.length → ∃ g, A = some ⟨g, 0, none⟩) := by
  rcases h.2 with ⟨rfl, h0⟩ | ⟨g, cap, cur, rfl, _⟩
  · exact ⟨none, 0, by rw [h0], fun h => by omega⟩
  · exact ⟨_, _, rfl, fun _ => ⟨_, rfl⟩⟩
theorem OwnS.empty {base : Nat} {W : World} {c : Nat} {A : Option Addr} (_h : OwnS base (.slice A 0 c) [] W) : True := trivial
theorem GrownL.of_by {w w' : World} {v : Value} (h : w.grownBy w' v.ownBlock) : GrownL v.ownBlock.toList w w' :=
  ⟨h.os, h.tape, h.output, h.size, fun k hk hn => h.block k hk (fun e => hn (by simp [← e]))⟩

set_option maxHeartbeats 4000000 in
set_option maxRecDepth 1000000 in
theorem rmore_app (base : Nat) (v : Value) (l : List S2) (m : Int) (w : World) (h : OwnS base v l w) (hl : l.length ≤ 1000000) (hb : base ≤ w.heap.size) (hc : l = [] ∨ ∃ i x, l = i ++ [x] ∧ x.2 ≠ m - 1) (m0 : -1000000000 ≤ m) (m1 : m ≤ 1000000000) :
    Calls Tryz.prog 43 #[v, .int .i64 m] w (MorePost base v (l ++ [(m, m)]) w) := by
  obtain ⟨i0, hi, hz0, hz1, hz2⟩ := info_parts infoSpan
  obtain ⟨A, c, rfl, hA⟩ := h.form
  rcases hc with rfl | ⟨i, x, rfl, hx⟩
  · have HO : Hid (w.ownsRow base 27 2 (.slice A 0 c) 0 []) := Lib.hid h
    clear h hA hl
    go_enter Tryz.func43, Tryz.ntmps43
    go_wp2_with (at_builtin; refine wpList_append_own _ rfl _ _ 23 rfl base 27 i0 (.agg #[.int .i64 0, .int .i64 0]) 2 16 Tryz.underlying23 hi hz0 hz1 hz2 rfl (by decide) _ 0 _ rfl (HO.out.alloc _) ⟨w.heap.size, 0, none⟩ 1 1 [.int .i64 m, .int .i64 m] rfl rfl ?c1 ?c2 ?c3 ?c4 ?c5 ?_)
    case c1 =>
      intro j u hj
      match j, hj with
      | 0, hj => simp at hj; subst hj; simp [go_sem, Addr.add]
      | 1, hj => simp at hj; subst hj; simp [go_sem, Addr.add]
      | j + 2, hj => simp at hj
    case c2 => intro u hu; simp at hu; rcases hu with rfl | rfl <;> rfl
    case c3 => unfold maxLen; omega
    case c4 => omega
    case c5 => simp; omega
    intro v' w1 hown' hgrow _
    have HOwn := Lib.hid hown'
    have HG := Lib.hid ((GrownL.of_below ((Below.refl _ _).alloc (Nat.le_refl _) _)).trans (GrownL.of_by hgrow))
    clear hown' hgrow
    go_wp2_with fail
    go_ret
    exact ⟨_, rfl, HOwn.out, HG.out⟩
  · obtain ⟨g, rfl⟩ := hA (by simp)
    have hcell := World.ownsRow.cellAt h (i.length * 2 + 1) (by simp; omega)
    have hlen : (i ++ [x]).length = i.length + 1 := by simp
    rw [show (cells2 (i ++ [x]))[i.length * 2 + 1]? = some (.int .i64 x.2) by exact (cells2_at (i ++ [x]) i.length x.1 x.2 (by simp)).2] at hcell
    have h' : w.ownsRow base 27 2 (.slice (some ⟨g, 0, none⟩) (i.length + 1) c) (i.length + 1) (cells2 (i ++ [x])) := by rw [← hlen]; exact h
    have HO := Lib.hid h'
    have W1 : IntKind.i64.wrap (m - 1) = m - 1 := IntWalk.i64_in _ (by omega)
    have hne : (x.2 == m - 1) = false := by simpa using hx
    rw [hlen] at hl ⊢
    have HL := Lib.hid hlen
    clear h h' hA hx hlen
    generalize i.length = n at *
    rcases n with _ | n
    rw [show 0 * 2 + 1 = 1 from rfl] at hcell
    all_goals
     go_enter Tryz.func43, Tryz.ntmps43
     go_wp2_with (at_builtin; refine wpList_append_own _ rfl _ _ 23 rfl base 27 i0 (.agg #[.int .i64 0, .int .i64 0]) 2 16 Tryz.underlying23 hi hz0 hz1 hz2 rfl (by decide) _ _ _ rfl (HO.out.alloc _) ⟨w.heap.size, 0, none⟩ 1 1 [.int .i64 m, .int .i64 m] rfl rfl ?c1 ?c2 ?c3 ?c4 ?c5 ?_)
     case c1 =>
       intro j u hj
       match j, hj with
       | 0, hj => simp at hj; subst hj; simp [go_sem, Addr.add]
       | 1, hj => simp at hj; subst hj; simp [go_sem, Addr.add]
       | j + 2, hj => simp at hj
     case c2 => intro u hu; simp at hu; rcases hu with rfl | rfl <;> rfl
     case c3 => unfold maxLen; omega
     case c4 => omega
     case c5 => simp; omega
     intro v' w1 hown' hgrow _
     have HOwn := Lib.hid hown'
     have HG := Lib.hid ((GrownL.of_below ((Below.refl _ _).alloc (Nat.le_refl _) _)).trans (GrownL.of_by hgrow))
     clear hown' hgrow
     go_wp2_with fail
     go_ret
     refine ⟨_, rfl, ?_, HG.out⟩
     unfold OwnS
     rw [cells2_snoc, List.length_append, HL.out]
     exact HOwn.out

theorem cells2_one (l : List S2) : ∀ u ∈ cells2 l, u.oneCell' = true := by
  intro u hu
  obtain ⟨x, _, hx⟩ := List.mem_flatMap.1 hu
  simp at hx
  rcases hx with rfl | rfl <;> rfl
theorem cells2_set (i : List S2) (x : S2) (m : Int) : (cells2 (i ++ [x])).set (i.length * 2 + 1) (.int .i64 m) = cells2 (i ++ [(x.1, m)]) := by
  rw [cells2_snoc, cells2_snoc, List.set_append_right _ _ (by rw [cells2_len]; omega), cells2_len]
  rw [show i.length * 2 + 1 - i.length * 2 = 1 by omega]
  rfl

set_option maxHeartbeats 4000000 in
set_option maxRecDepth 1000000 in
theorem rmore_ext (base : Nat) (v : Value) (i : List S2) (x : S2) (m : Int) (w : World) (h : OwnS base v (i ++ [x]) w) (hl : (i ++ [x]).length ≤ 1000000) (hb : base ≤ w.heap.size) (hx : x.2 = m - 1) (m0 : -1000000000 ≤ m) (m1 : m ≤ 1000000000) :
    Calls Tryz.prog 43 #[v, .int .i64 m] w (MorePost base v (i ++ [(x.1, m)]) w) := by
  obtain ⟨i0, hi, hz0, hz1, hz2⟩ := info_parts infoSpan
  obtain ⟨A, c, rfl, hA⟩ := h.form
  obtain ⟨g, rfl⟩ := hA (by simp)
  have hcell := World.ownsRow.cellAt h (i.length * 2 + 1) (by simp; omega)
  have hlen : (i ++ [x]).length = i.length + 1 := by simp
  rw [show (cells2 (i ++ [x]))[i.length * 2 + 1]? = some (.int .i64 x.2) by exact (cells2_at (i ++ [x]) i.length x.1 x.2 (by simp)).2, hx] at hcell
  have hnews : ∀ j u, (cells2 (i ++ [x]))[j]? = some u → w.cell? ((⟨g, 0, none⟩ : Addr).add j) = some u := World.ownsRow.cells h rfl
  have HNW := Lib.hid hnews
  have HCL : Hid ((cells2 (i ++ [x])).length = (i.length + 1) * 2) := Lib.hid (by rw [cells2_len, hlen])
  have HST := Lib.hid (cells2_set i x m)
  have HLE : Hid ((i ++ [(x.1, m)]).length = i.length + 1) := Lib.hid (by simp)
  have HONE := Lib.hid (cells2_one (i ++ [x]))
  have HNIL := Lib.hid (World.ownsRow_nil w base 27 2)
  have W1 : IntKind.i64.wrap (m - 1) = m - 1 := IntWalk.i64_in _ (by omega)
  rw [hlen] at hl ⊢
  clear h hA hx hlen hnews
  generalize i.length = n at *
  rcases n with _ | n
  · rw [show 0 * 2 + 1 = 1 from rfl] at hcell
    go_enter Tryz.func43, Tryz.ntmps43
    go_wp2_with (at_builtin; refine wpList_append_own_at _ rfl _ _ 23 rfl base 27 i0 (.agg #[.int .i64 0, .int .i64 0]) 2 16 Tryz.underlying23 hi hz0 hz1 hz2 rfl (by decide) _ 0 [] rfl HNIL.out ⟨g, 0, none⟩ _ c (cells2 (i ++ [x])) rfl HCL.out HNW.out HONE.out ?c3 ?c4 hb ?_)
    case c3 => unfold maxLen; omega
    case c4 => omega
    intro v' w1 hown' hgrow _ hat
    have hown1 : w1.ownsRow base 27 2 v' (0 + 1) (cells2 (i ++ [x])) := by simpa using hown'
    clear hown'
    obtain ⟨g', cap', rfl⟩ := ownsRow_succ hown1
    have hg' : g' = w.heap.size := by rcases hat with h | h <;> simp [Value.ownBlock] at h; exact h
    subst hg'
    have hown2 : w1.ownsRow base 27 2 (.slice (some ⟨w.heap.size, 0, none⟩) (1) cap') (1) (cells2 (i ++ [x])) := hown1
    have HOwn := Lib.hid hown2
    have HG := Lib.hid hgrow
    have c1 := World.ownsRow.cellAt hown2 (1) (by omega)
    have f1 := World.ownsRow.frozenAt hown2 (1)
    rw [List.getElem?_eq_getElem (by rw [HCL.out]; omega)] at c1
    clear hown1 hown2 hgrow hat
    go_wp2_with fail
    go_ret
    have st := (World.ownsRow.stored HOwn.out (1) (.int .i64 m)).1
    rw [show (cells2 (i ++ [x])).set (1) (.int .i64 m) = cells2 (i ++ [(x.1, m)]) from HST.out] at st
    refine ⟨_, rfl, ?_, ?_⟩
    · unfold OwnS
      rw [HLE.out]
      exact st
    · exact (GrownL.of_below ⟨HG.out.os, HG.out.tape, HG.out.output, (by simpa [World.setCell] using HG.out.size), fun k hk => (Below.heap_setCell _ _ _ k (fun e => by have e' : k = w.heap.size := e; omega)).trans (HG.out.block k hk (by simp [Value.ownBlock]))⟩)
  · go_enter Tryz.func43, Tryz.ntmps43
    go_wp2_with (at_builtin; refine wpList_append_own_at _ rfl _ _ 23 rfl base 27 i0 (.agg #[.int .i64 0, .int .i64 0]) 2 16 Tryz.underlying23 hi hz0 hz1 hz2 rfl (by decide) _ 0 [] rfl HNIL.out ⟨g, 0, none⟩ _ c (cells2 (i ++ [x])) rfl HCL.out HNW.out HONE.out ?c3 ?c4 hb ?_)
    case c3 => unfold maxLen; omega
    case c4 => omega
    intro v' w1 hown' hgrow _ hat
    have hown1 : w1.ownsRow base 27 2 v' (n + 1 + 1) (cells2 (i ++ [x])) := by simpa using hown'
    clear hown'
    obtain ⟨g', cap', rfl⟩ := ownsRow_succ hown1
    have hg' : g' = w.heap.size := by rcases hat with h | h <;> simp [Value.ownBlock] at h; exact h
    subst hg'
    have hown2 : w1.ownsRow base 27 2 (.slice (some ⟨w.heap.size, 0, none⟩) (n + 1 + 1) cap') (n + 1 + 1) (cells2 (i ++ [x])) := hown1
    have HOwn := Lib.hid hown2
    have HG := Lib.hid hgrow
    have c1 := World.ownsRow.cellAt hown2 ((n + 1) * 2 + 1) (by omega)
    have f1 := World.ownsRow.frozenAt hown2 ((n + 1) * 2 + 1)
    rw [List.getElem?_eq_getElem (by rw [HCL.out]; omega)] at c1
    clear hown1 hown2 hgrow hat
    go_wp2_with fail
    go_ret
    have st := (World.ownsRow.stored HOwn.out ((n + 1) * 2 + 1) (.int .i64 m)).1
    rw [show (cells2 (i ++ [x])).set ((n + 1) * 2 + 1) (.int .i64 m) = cells2 (i ++ [(x.1, m)]) from HST.out] at st
    refine ⟨_, rfl, ?_, ?_⟩
    · unfold OwnS
      rw [HLE.out]
      exact st
    · exact (GrownL.of_below ⟨HG.out.os, HG.out.tape, HG.out.output, (by simpa [World.setCell] using HG.out.size), fun k hk => (Below.heap_setCell _ _ _ k (fun e => by have e' : k = w.heap.size := e; omega)).trans (HG.out.block k hk (by simp [Value.ownBlock]))⟩)
end Go.Proofs.YtlhgpeelenelbaaGreatDoor

/- Contracts of the specification's Spans and Rest. -/
namespace Go.Proofs.YtlhgpeelenelbaaGreatDoor
open Go.RowKit

theorem rmore_any (base : Nat) (v : Value) (l : List S2) (m : Int) (w : World) (h : OwnS base v l w) (hl : l.length ≤ 1000000) (hb : base ≤ w.heap.size) (m0 : -1000000000 ≤ m) (m1 : m ≤ 1000000000) :
    Calls Tryz.prog 43 #[v, .int .i64 m] w (MorePost base v (more l m) w) := by
  rcases list_cases l with rfl | ⟨i, x, rfl⟩
  · exact rmore_app base v [] m w h hl hb (.inl rfl) m0 m1
  · rw [more_snoc]
    by_cases hx : x.2 = m - 1
    · rw [if_pos hx]; exact rmore_ext base v i x m w h hl hb hx m0 m1
    · rw [if_neg hx]; exact rmore_app base v (i ++ [x]) m w h hl hb (.inr ⟨i, x, rfl, hx⟩) m0 m1
theorem OwnS.grown {base : Nat} {v : Value} {l : List S2} {W W' : World} {bs : List Nat} (h : OwnS base v l W) (hg : GrownL bs W W') (hn : ∀ g, v.ownBlock = some g → g ∉ bs) : OwnS base v l W' := ownsRow_grownL h hg hn
theorem OwnS.lt {base : Nat} {v : Value} {l : List S2} {W : World} (h : OwnS base v l W) : ∀ g, v.ownBlock = some g → base ≤ g ∧ g < W.heap.size := World.ownsRow.lt h

/-- The first three blocks of Spans and Rest. -/
def SpX (w : World) (a b c d : Value) (W : World) : Prop :=
  FourC w.heap.size (w.heap.size + 1) a b c d W ∧ W.heap[w.heap.size + 2]? = some (.cells #[.slice none 0 0, .int .i64 0] 37 (0, 0)) ∧ w.heap.size + 3 ≤ W.heap.size ∧ Below w.heap.size w W
section
variable {w W W' : World} {a b c d : Value} {bs : List Nat}
theorem SpX.four (h : SpX w a b c d W) : FourC w.heap.size (w.heap.size + 1) a b c d W := h.1
theorem SpX.bel (h : SpX w a b c d W) : Below w.heap.size w W := h.2.2.2
theorem SpX.siz (h : SpX w a b c d W) : w.heap.size + 3 ≤ W.heap.size := h.2.2.1
theorem SpX.res (h : SpX w a b c d W) : W.cell? ⟨w.heap.size + 2, 0, none⟩ = some (.slice none 0 0) ∧ W.cell? ⟨w.heap.size + 2, 1, none⟩ = some (.int .i64 0) ∧ W.frozen? ⟨w.heap.size + 2, 0, none⟩ = false ∧ W.frozen? ⟨w.heap.size + 2, 1, none⟩ = false :=
  ⟨by simp [World.cell?, h.2.1], by simp [World.cell?, h.2.1], by simp [World.frozen?, h.2.1], by simp [World.frozen?, h.2.1]⟩
theorem SpX.setres (h : SpX w a b c d W) (x y : Value) : ((W.setCell ⟨w.heap.size + 2, 0, none⟩ x).setCell ⟨w.heap.size + 2, 1, none⟩ y).cell? ⟨w.heap.size + 2, 0, none⟩ = some x ∧ ((W.setCell ⟨w.heap.size + 2, 0, none⟩ x).setCell ⟨w.heap.size + 2, 1, none⟩ y).cell? ⟨w.heap.size + 2, 1, none⟩ = some y := by
  obtain ⟨r0, r1, _, _⟩ := h.res
  have t : Two (w.heap.size + 2) (.slice none 0 0) (.int .i64 0) W := ⟨r0, r1, by have := h.siz; omega⟩
  have t' := t.set x y
  exact ⟨t'.1, t'.2.1⟩
theorem SpX.grown (h : SpX w a b c d W) (hg : GrownL bs W W') (hn : ∀ b ∈ bs, w.heap.size + 3 ≤ b) : SpX w a b c d W' := by
  obtain ⟨⟨h1, h2, h3, h4⟩, h5, h6, h7⟩ := h
  have n0 : w.heap.size ∉ bs := fun hm => by have := hn _ hm; omega
  have n1 : w.heap.size + 1 ∉ bs := fun hm => by have := hn _ hm; omega
  have n2 : w.heap.size + 2 ∉ bs := fun hm => by have := hn _ hm; omega
  exact ⟨⟨hg.cell h1 n0, hg.cell h2 n0, hg.cell h3 n1, hg.cell h4 n1⟩, (hg.block _ (by omega) n2).trans h5, Nat.le_trans h6 hg.size, h7.trans (hg.below (fun b hb => by have := hn b hb; omega) (by omega))⟩
theorem SpX.below (h : SpX w a b c d W) (hb : Below W.heap.size W W') : SpX w a b c d W' := h.grown (GrownL.of_below (bs := []) hb) (by simp)
theorem SpX.new (w : World) (a b c d : Value) : SpX w a b c d (((w.alloc (.cells #[a, b] 25)).alloc (.cells #[c, d] 27)).alloc (.cells #[.slice none 0 0, .int .i64 0] 37)) := by
  refine ⟨⟨by simp [go_sem], by simp [go_sem], by simp [go_sem], by simp [go_sem]⟩, ?_, by simp, ((((Below.refl w.heap.size w).alloc (Nat.le_refl _) _).alloc (by simp) _)).alloc (by simp; omega) _⟩
  have := World.alloc_heap_new ((w.alloc (.cells #[a, b] 25)).alloc (.cells #[c, d] 27)) (.cells #[.slice none 0 0, .int .i64 0] 37)
  simpa using this
end

set_option maxHeartbeats 1000000 in
theorem rspanned_any (v : Value) (ts : List T3) (ss : List S2) (lo hi c d : Int) (w : World) (h : RM w.heap.size v ts ss w) (hc : CheckIs ts ss c) (hd : InIs c lo hi d) :
    Calls Tryz.prog 40 #[v, sv2 lo hi] w fun e w' => e = .returned (.int .i64 d) ∧ Below w.heap.size w w' := by
  have H := Lib.hid h
  obtain ⟨A, m, ca, A', m', ca', rfl, h1, h2⟩ := h
  have hB2 := below_two w (.cells #[.slice A m ca, .slice A' m' ca'] 25) (.cells #[.int .i64 lo, .int .i64 hi] 27)
  have HB2 := Lib.hid hB2
  have C : Hid (∀ W, Below w.heap.size w W → w.heap.size ≤ W.heap.size → Calls Tryz.prog 49 #[.agg #[.slice A m ca, .slice A' m' ca']] W fun e w' => e = .returned (.int .i64 c) ∧ Below W.heap.size W w') :=
    Lib.hid fun W hb hs => rcheck_any _ _ ts ss c W (h1.up hs hb) (h2.up hs hb) hc
  have K0 := Lib.hid fun W => rspan_any lo hi W
  clear h1 h2 hB2 hc
  rcases hd with ⟨h0, rfl⟩ | ⟨rfl, hm, rfl⟩ | ⟨rfl, hm, rfl⟩
  · have hb0 : (d != 0) = true := by rw [bne_iff_ne]; exact h0
    clear h0
    go_enter Tryz.func40, Tryz.ntmps40
    go_wp2_with fail
    refine (C.out _ HB2.out (by simp; omega)).mono ?_
    rintro e w1 ⟨rfl, hb1⟩
    have B1 := Lib.hid (HB2.out.trans (hb1.mono (by simp; omega)))
    clear hb1
    go_wp2_with fail
    go_ret
    exact ⟨rfl, B1.out⟩
  all_goals
    first
      | rw [show sokB lo hi = true from sokB_true.2 hm] at K0
      | rw [show sokB lo hi = false by cases hh : sokB lo hi; rfl; exact absurd (sokB_true.1 hh) hm] at K0
    clear hm
    go_enter Tryz.func40, Tryz.ntmps40
    go_wp2_with fail
    refine (C.out _ HB2.out (by simp; omega)).mono ?_
    rintro e w1 ⟨rfl, hb1⟩
    have B1 := Lib.hid (HB2.out.trans (hb1.mono (by simp; omega)))
    have z0 : w1.cell? ⟨w.heap.size + 1, 0, none⟩ = some (.int .i64 lo) := (hb1.cell (p := ⟨w.heap.size + 1, 0, none⟩) (by simp)).trans (by simp [go_sem])
    have z1 : w1.cell? ⟨w.heap.size + 1, 1, none⟩ = some (.int .i64 hi) := (hb1.cell (p := ⟨w.heap.size + 1, 1, none⟩) (by simp)).trans (by simp [go_sem])
    have hz := hb1.size
    clear hb1
    go_wp2_with fail
    refine (K0.out _).mono ?_
    rintro e w2 ⟨rfl, hb2⟩
    have B2 := Lib.hid (B1.out.trans (hb2.mono (by simp at hz; omega)))
    clear hb2
    go_wp2_with fail
    go_ret
    exact ⟨rfl, B2.out⟩

def RListPost (d : Int) (full : List S2) (w : World) (e : Ending) (w' : World) : Prop :=
  ∃ v l c, e = .returned (.agg #[v, .int .i64 c]) ∧ RS w'.heap.size v l w' ∧ Below w.heap.size w w' ∧ ListIs d full l c
/-- What listed gives: the list's value lies from base on, or is nil. -/
def RLPost (base : Nat) (full : List S2) (w : World) (e : Ending) (w' : World) : Prop :=
  ∃ v l c, e = .returned (.agg #[v, .int .i64 c]) ∧ OwnS base v l w' ∧ Below w.heap.size w w' ∧ ListIs 0 full l c
theorem OwnS.slice {base : Nat} {v : Value} {l : List S2} {W : World} (h : OwnS base v l W) : ∃ A n c, v = .slice A n c := by
  obtain ⟨A, c, rfl, _⟩ := h.form
  exact ⟨_, _, _, rfl⟩
theorem OwnS.again {w : World} {v : Value} {l : List S2} {W W' : World} {c d full} (h : OwnS (w.heap.size + 3) v l W) (hl : ListIs d full l c) (hg : GrownL [w.heap.size + 2] W W') : RS W'.heap.size v l W' := by
  refine rs_of_row (ownsRow_grownL (base := w.heap.size + 3) h hg fun g e hm => ?_) ?_
  · have := h.lt g e
    simp at hm
    omega
  · rcases hl with ⟨_, rfl, _⟩ | ⟨_, h1, rfl, _⟩ | ⟨_, _, rfl, _⟩
    · simp
    · omega
    · simp

set_option maxHeartbeats 1000000 in
theorem rlisted_any (base : Nat) (v : Value) (l : List S2) (w : World) (h : OwnS base v l w) (hl : l.length ≤ 1000000) :
    Calls Tryz.prog 44 #[v] w (RLPost base l w) := by
  obtain ⟨A, c, rfl, -⟩ := h.form
  have HO := Lib.hid h
  clear h
  by_cases hf : 2000 < l.length
  · have hf' : (2000 : Int) < (l.length : Int) := by omega
    have HF := Lib.hid hf
    clear hf
    go_enter Tryz.func44, Tryz.ntmps44
    go_wp2_with fail
    refine bodyPost_ret (v := .agg #[.slice none 0 0, .int .i64 2]) (by simp [results, Tryz.results44, go_sem]) rfl ?_
    exact ⟨_, [], 2, rfl, World.ownsRow_nil _ _ _ _, (Below.refl _ _).alloc (Nat.le_refl _) _, .inr (.inr ⟨rfl, HF.out, rfl, rfl⟩)⟩
  · have hf' : (l.length : Int) ≤ 2000 := by omega
    have HF := Lib.hid hf
    clear hf
    go_enter Tryz.func44, Tryz.ntmps44
    go_wp2_with fail
    refine bodyPost_ret (v := .agg #[.slice A l.length c, .int .i64 0]) (by simp [results, Tryz.results44, go_sem]) rfl ?_
    exact ⟨_, l, 0, rfl, World.ownsRow.alloc HO.out _, (Below.refl _ _).alloc (Nat.le_refl _) _, .inr (.inl ⟨rfl, by have := HF.out; omega, rfl, rfl⟩)⟩

set_option maxHeartbeats 4000000 in
set_option maxRecDepth 1000000 in
theorem rspans_ok (va : Value) (ts : List T3) (ss : List S2) (lo hi : Int) (w : World) (h : RM w.heap.size va ts ss w) (hc : CheckIs ts ss 0) (hs : SOk lo hi) (hlen : hi - lo ≤ 999999) :
    Calls Tryz.prog 12 #[va, sv2 lo hi] w (RListPost 0 (spn (setB (lotsOf ts ss)) lo (hi + 1 - lo).toNat) w) := by
  obtain ⟨k1, k2, k3⟩ := checkIs_ok hc
  obtain ⟨s1, s2, s3⟩ := id hs
  obtain ⟨A, m, ca, A', m', ca', rfl, -⟩ := id h
  have CS := Lib.hid fun W (hb : Below w.heap.size w W) => rspanned_any _ ts ss lo hi 0 0 W (h.up hb.size hb) hc (.inr (.inl ⟨rfl, hs, rfl⟩))
  have CH := Lib.hid fun (n : Int) W (n0 : -1000000000 ≤ n) (n1 : n ≤ 1000000000) (hb : Below w.heap.size w W) => rhas_any _ ts ss n W (h.up hb.size hb) k3 k1 k2 n0 n1
  have S0 := Lib.hid (SpX.new w (.slice A m ca) (.slice A' m' ca') (.int .i64 lo) (.int .i64 hi))
  have HO0 : Hid (∀ W, OwnS (w.heap.size + 3) (.slice none 0 0) (spn (setB (lotsOf ts ss)) lo 0) W) := Lib.hid fun W => World.ownsRow_nil W _ _ _
  clear h hc hs k3
  go_enter Tryz.func12, Tryz.ntmps12
  go_wp2_with fail
  refine (CS.out _ S0.out.bel).mono ?_
  rintro e w1 ⟨rfl, h1⟩
  have S1 := Lib.hid (S0.out.below h1)
  clear h1 S0
  obtain ⟨y0, y1, z0, z1⟩ := S1.out.four
  go_wp2_with fail
  clear y0 y1 z0 z1
  go_loopw [6, 7] (fun v u wr => ∃ k : Nat, u = .int .i64 (lo + k) ∧ lo + k ≤ hi + 1 ∧ OwnS (w.heap.size + 3) v (spn (setB (lotsOf ts ss)) lo k) wr ∧ SpX w (.slice A m ca) (.slice A' m' ca') (.int .i64 lo) (.int .i64 hi) wr) (fun _ u _ => (hi + 1 - intOf u).toNat)
  case atStart => exact ⟨0, by simp, by omega, HO0.out _, S1.out⟩
  case round =>
    obtain ⟨k, rfl, hk, ho, hsx⟩ := hrel
    have HO := Lib.hid ho
    have S := Lib.hid hsx
    obtain ⟨y0, y1, z0, z1⟩ := hsx.four
    have hkl : (spn (setB (lotsOf ts ss)) lo k).length ≤ 1000000 := Nat.le_trans (spn_len _ _ _) (by omega)
    clear ho hsx
    by_cases hlt : lo + k ≤ hi
    · have hsp : spn (setB (lotsOf ts ss)) lo (k + 1) = if setB (lotsOf ts ss) (lo + k) = true then more (spn (setB (lotsOf ts ss)) lo k) (lo + k) else spn (setB (lotsOf ts ss)) lo k := by
        show (if setB (lotsOf ts ss) (lo + k) = true then _ else _) = _
        skip
        cases setB (lotsOf ts ss) (lo + k) <;> rfl
      have CHa := Lib.hid fun W hb => CH.out (lo + k) W (by omega) (by omega) hb
      obtain ⟨x, hx⟩ : ∃ x, setB (lotsOf ts ss) (lo + k) = x := ⟨_, rfl⟩
      rw [hx] at CHa hsp
      have HSP := Lib.hid hsp
      have HKL := Lib.hid hkl
      clear hsp hx hkl
      cases x
      all_goals
        go_wp2_with fail
        refine (CHa.out _ S.out.bel).mono ?_
        rintro e w3 ⟨rfl, h3⟩
        have S3 := Lib.hid (S.out.below h3)
        have HO3 := Lib.hid (HO.out.grown (GrownL.of_below (bs := []) h3) (by simp))
        clear h3 y0 y1 z0 z1 S HO
        obtain ⟨y0, y1, z0, z1⟩ := S3.out.four
        go_wp2_with fail
        first
          | (go_roundw
             case rel => exact ⟨k + 1, by congr 1; omega, by omega, by rw [HSP.out]; exact HO3.out, S3.out⟩
             case measure => show (hi + 1 - (lo + k + 1)).toNat < (hi + 1 - (lo + k)).toNat; omega)
          | (refine (rmore_any (w.heap.size + 3) _ _ (lo + k) _ HO3.out HKL.out S3.out.siz (by omega) (by omega)).mono ?_
             rintro e w4 ⟨v', rfl, ho4, hg4⟩
             have S4 := Lib.hid (S3.out.grown hg4 (fun b hb => by have := HO3.out.lt b (by simpa using hb); omega))
             have HO4 := Lib.hid ho4
             clear ho4 hg4 y0 y1 z0 z1
             obtain ⟨y0, y1, z0, z1⟩ := S4.out.four
             go_wp2_with fail
             go_roundw
             case rel => exact ⟨k + 1, by congr 1; omega, by omega, by rw [HSP.out]; exact HO4.out, S4.out⟩
             case measure => show (hi + 1 - (lo + k + 1)).toNat < (hi + 1 - (lo + k)).toNat; omega)
    · obtain rfl : (hi + 1 - lo).toNat = k := by omega
      have HKL := Lib.hid hkl
      clear hkl
      obtain ⟨r0, r1, f0, f1⟩ := S.out.res
      obtain ⟨Av, cv, rfl, -⟩ := HO.out.form
      go_wp2_with fail
      refine (rlisted_any (w.heap.size + 3) _ _ _ HO.out HKL.out).mono ?_
      rintro e w4 ⟨v', l, c, rfl, hl4, hb4, hc4⟩
      have S4 := Lib.hid (S.out.below hb4)
      have R4 := Lib.hid (And.intro hl4 hc4)
      obtain ⟨Av', nv', cv', rfl⟩ := hl4.slice
      clear hl4 hb4 hc4 r0 r1 f0 f1 y0 y1 z0 z1 S HO
      obtain ⟨r0, r1, f0, f1⟩ := S4.out.res
      go_wp2_with fail
      refine bodyPost_ret (v := .agg #[.slice Av' nv' cv', .int .i64 c]) ?_ rfl ?_
      · have q := S4.out.setres (.slice Av' nv' cv') (.int .i64 c)
        simp [results, Tryz.results12, go_sem, q.1, q.2]
      · refine ⟨_, l, c, rfl, R4.out.1.again R4.out.2 ?_, (S4.out.bel.setCell (p := ⟨w.heap.size + 2, 0, none⟩) (by simp) _).setCell (p := ⟨w.heap.size + 2, 1, none⟩) (by simp) _, R4.out.2⟩
        exact (GrownL.set (bs := [w.heap.size + 2]) _ ⟨w.heap.size + 2, 0, none⟩ _ (by simp)).trans (GrownL.set (bs := [w.heap.size + 2]) _ ⟨w.heap.size + 2, 1, none⟩ _ (by simp))

set_option maxHeartbeats 4000000 in
set_option maxRecDepth 1000000 in
theorem rspans_err (va : Value) (ts : List T3) (ss : List S2) (lo hi c d : Int) (w : World) (h : RM w.heap.size va ts ss w) (hc : CheckIs ts ss c) (hd : InIs c lo hi d) (h0 : d ≠ 0) :
    Calls Tryz.prog 12 #[va, sv2 lo hi] w fun e w' => e = .returned (.agg #[.slice none 0 0, .int .i64 d]) ∧ Below w.heap.size w w' := by
  obtain ⟨A, m, ca, A', m', ca', rfl, -⟩ := id h
  have CS := Lib.hid fun W (hb : Below w.heap.size w W) => rspanned_any _ ts ss lo hi c d W (h.up hb.size hb) hc hd
  have S0 := Lib.hid (SpX.new w (.slice A m ca) (.slice A' m' ca') (.int .i64 lo) (.int .i64 hi))
  have hb0 : (d != 0) = true := by rw [bne_iff_ne]; exact h0
  clear h hc hd h0
  go_enter Tryz.func12, Tryz.ntmps12
  go_wp2_with fail
  refine (CS.out _ S0.out.bel).mono ?_
  rintro e w1 ⟨rfl, h1⟩
  have S1 := Lib.hid (S0.out.below h1)
  clear h1 S0
  obtain ⟨r0, r1, f0, f1⟩ := S1.out.res
  go_wp2_with fail
  refine bodyPost_ret (v := .agg #[.slice none 0 0, .int .i64 d]) ?_ rfl ?_
  · have q := S1.out.setres (.slice none 0 0) (.int .i64 d)
    simp [results, Tryz.results12, go_sem, q.1, q.2]
  · exact ⟨rfl, (S1.out.bel.setCell (p := ⟨w.heap.size + 2, 0, none⟩) (by simp) _).setCell (p := ⟨w.heap.size + 2, 1, none⟩) (by simp) _⟩

theorem rspans_any (va : Value) (ts : List T3) (ss : List S2) (lo hi c d : Int) (w : World) (h : RM w.heap.size va ts ss w) (hc : CheckIs ts ss c) (hd : InIs c lo hi d) (hlen : SOk lo hi → hi - lo ≤ 999999) :
    Calls Tryz.prog 12 #[va, sv2 lo hi] w (RListPost d (spn (setB (lotsOf ts ss)) lo (hi + 1 - lo).toNat) w) := by
  by_cases h0 : d = 0
  · subst h0
    obtain ⟨rfl, hs⟩ := inIs_ok hd
    exact rspans_ok va ts ss lo hi w h hc hs (hlen hs)
  · refine (rspans_err va ts ss lo hi c d w h hc hd h0).mono ?_
    rintro e w' ⟨rfl, hb⟩
    exact ⟨_, [], d, rfl, rs_nil _ _, hb, .inl ⟨h0, rfl, rfl⟩⟩
end Go.Proofs.YtlhgpeelenelbaaGreatDoor

/- Contract of the specification's Rest. -/
namespace Go.Proofs.YtlhgpeelenelbaaGreatDoor
open Go.RowKit

set_option maxHeartbeats 4000000 in
set_option maxRecDepth 1000000 in
theorem rrest_ok (va : Value) (ts : List T3) (ss : List S2) (lo hi : Int) (w : World) (h : RM w.heap.size va ts ss w) (hc : CheckIs ts ss 0) (hs : SOk lo hi) (hlen : hi - lo ≤ 999999) :
    Calls Tryz.prog 14 #[va, sv2 lo hi] w (RListPost 0 (spn (notH (setB (lotsOf ts ss))) lo (hi + 1 - lo).toNat) w) := by
  obtain ⟨k1, k2, k3⟩ := checkIs_ok hc
  obtain ⟨s1, s2, s3⟩ := id hs
  obtain ⟨A, m, ca, A', m', ca', rfl, -⟩ := id h
  have CS := Lib.hid fun W (hb : Below w.heap.size w W) => rspanned_any _ ts ss lo hi 0 0 W (h.up hb.size hb) hc (.inr (.inl ⟨rfl, hs, rfl⟩))
  have CH := Lib.hid fun (n : Int) W (n0 : -1000000000 ≤ n) (n1 : n ≤ 1000000000) (hb : Below w.heap.size w W) => rhas_any _ ts ss n W (h.up hb.size hb) k3 k1 k2 n0 n1
  have S0 := Lib.hid (SpX.new w (.slice A m ca) (.slice A' m' ca') (.int .i64 lo) (.int .i64 hi))
  have HO0 : Hid (∀ W, OwnS (w.heap.size + 3) (.slice none 0 0) (spn (notH (setB (lotsOf ts ss))) lo 0) W) := Lib.hid fun W => World.ownsRow_nil W _ _ _
  clear h hc hs k3
  go_enter Tryz.func14, Tryz.ntmps14
  go_wp2_with fail
  refine (CS.out _ S0.out.bel).mono ?_
  rintro e w1 ⟨rfl, h1⟩
  have S1 := Lib.hid (S0.out.below h1)
  clear h1 S0
  obtain ⟨y0, y1, z0, z1⟩ := S1.out.four
  go_wp2_with fail
  clear y0 y1 z0 z1
  go_loopw [6, 7] (fun v u wr => ∃ k : Nat, u = .int .i64 (lo + k) ∧ lo + k ≤ hi + 1 ∧ OwnS (w.heap.size + 3) v (spn (notH (setB (lotsOf ts ss))) lo k) wr ∧ SpX w (.slice A m ca) (.slice A' m' ca') (.int .i64 lo) (.int .i64 hi) wr) (fun _ u _ => (hi + 1 - intOf u).toNat)
  case atStart => exact ⟨0, by simp, by omega, HO0.out _, S1.out⟩
  case round =>
    obtain ⟨k, rfl, hk, ho, hsx⟩ := hrel
    have HO := Lib.hid ho
    have S := Lib.hid hsx
    obtain ⟨y0, y1, z0, z1⟩ := hsx.four
    have hkl : (spn (notH (setB (lotsOf ts ss))) lo k).length ≤ 1000000 := Nat.le_trans (spn_len _ _ _) (by omega)
    clear ho hsx
    by_cases hlt : lo + k ≤ hi
    · have hsp : spn (notH (setB (lotsOf ts ss))) lo (k + 1) = if setB (lotsOf ts ss) (lo + k) = false then more (spn (notH (setB (lotsOf ts ss))) lo k) (lo + k) else spn (notH (setB (lotsOf ts ss))) lo k := by
        show (if notH (setB (lotsOf ts ss)) (lo + k) = true then _ else _) = _
        show (if (!setB (lotsOf ts ss) (lo + k)) = true then _ else _) = _
        cases setB (lotsOf ts ss) (lo + k) <;> rfl
      have CHa := Lib.hid fun W hb => CH.out (lo + k) W (by omega) (by omega) hb
      obtain ⟨x, hx⟩ : ∃ x, setB (lotsOf ts ss) (lo + k) = x := ⟨_, rfl⟩
      rw [hx] at CHa hsp
      have HSP := Lib.hid hsp
      have HKL := Lib.hid hkl
      clear hsp hx hkl
      cases x
      all_goals
        go_wp2_with fail
        refine (CHa.out _ S.out.bel).mono ?_
        rintro e w3 ⟨rfl, h3⟩
        have S3 := Lib.hid (S.out.below h3)
        have HO3 := Lib.hid (HO.out.grown (GrownL.of_below (bs := []) h3) (by simp))
        clear h3 y0 y1 z0 z1 S HO
        obtain ⟨y0, y1, z0, z1⟩ := S3.out.four
        go_wp2_with fail
        first
          | (go_roundw
             case rel => exact ⟨k + 1, by congr 1; omega, by omega, by rw [HSP.out]; exact HO3.out, S3.out⟩
             case measure => show (hi + 1 - (lo + k + 1)).toNat < (hi + 1 - (lo + k)).toNat; omega)
          | (refine (rmore_any (w.heap.size + 3) _ _ (lo + k) _ HO3.out HKL.out S3.out.siz (by omega) (by omega)).mono ?_
             rintro e w4 ⟨v', rfl, ho4, hg4⟩
             have S4 := Lib.hid (S3.out.grown hg4 (fun b hb => by have := HO3.out.lt b (by simpa using hb); omega))
             have HO4 := Lib.hid ho4
             clear ho4 hg4 y0 y1 z0 z1
             obtain ⟨y0, y1, z0, z1⟩ := S4.out.four
             go_wp2_with fail
             go_roundw
             case rel => exact ⟨k + 1, by congr 1; omega, by omega, by rw [HSP.out]; exact HO4.out, S4.out⟩
             case measure => show (hi + 1 - (lo + k + 1)).toNat < (hi + 1 - (lo + k)).toNat; omega)
    · obtain rfl : (hi + 1 - lo).toNat = k := by omega
      have HKL := Lib.hid hkl
      clear hkl
      obtain ⟨r0, r1, f0, f1⟩ := S.out.res
      obtain ⟨Av, cv, rfl, -⟩ := HO.out.form
      go_wp2_with fail
      refine (rlisted_any (w.heap.size + 3) _ _ _ HO.out HKL.out).mono ?_
      rintro e w4 ⟨v', l, c, rfl, hl4, hb4, hc4⟩
      have S4 := Lib.hid (S.out.below hb4)
      have R4 := Lib.hid (And.intro hl4 hc4)
      obtain ⟨Av', nv', cv', rfl⟩ := hl4.slice
      clear hl4 hb4 hc4 r0 r1 f0 f1 y0 y1 z0 z1 S HO
      obtain ⟨r0, r1, f0, f1⟩ := S4.out.res
      go_wp2_with fail
      refine bodyPost_ret (v := .agg #[.slice Av' nv' cv', .int .i64 c]) ?_ rfl ?_
      · have q := S4.out.setres (.slice Av' nv' cv') (.int .i64 c)
        simp [results, Tryz.results14, go_sem, q.1, q.2]
      · refine ⟨_, l, c, rfl, R4.out.1.again R4.out.2 ?_, (S4.out.bel.setCell (p := ⟨w.heap.size + 2, 0, none⟩) (by simp) _).setCell (p := ⟨w.heap.size + 2, 1, none⟩) (by simp) _, R4.out.2⟩
        exact (GrownL.set (bs := [w.heap.size + 2]) _ ⟨w.heap.size + 2, 0, none⟩ _ (by simp)).trans (GrownL.set (bs := [w.heap.size + 2]) _ ⟨w.heap.size + 2, 1, none⟩ _ (by simp))

set_option maxHeartbeats 4000000 in
set_option maxRecDepth 1000000 in
theorem rrest_err (va : Value) (ts : List T3) (ss : List S2) (lo hi c d : Int) (w : World) (h : RM w.heap.size va ts ss w) (hc : CheckIs ts ss c) (hd : InIs c lo hi d) (h0 : d ≠ 0) :
    Calls Tryz.prog 14 #[va, sv2 lo hi] w fun e w' => e = .returned (.agg #[.slice none 0 0, .int .i64 d]) ∧ Below w.heap.size w w' := by
  obtain ⟨A, m, ca, A', m', ca', rfl, -⟩ := id h
  have CS := Lib.hid fun W (hb : Below w.heap.size w W) => rspanned_any _ ts ss lo hi c d W (h.up hb.size hb) hc hd
  have S0 := Lib.hid (SpX.new w (.slice A m ca) (.slice A' m' ca') (.int .i64 lo) (.int .i64 hi))
  have hb0 : (d != 0) = true := by rw [bne_iff_ne]; exact h0
  clear h hc hd h0
  go_enter Tryz.func14, Tryz.ntmps14
  go_wp2_with fail
  refine (CS.out _ S0.out.bel).mono ?_
  rintro e w1 ⟨rfl, h1⟩
  have S1 := Lib.hid (S0.out.below h1)
  clear h1 S0
  obtain ⟨r0, r1, f0, f1⟩ := S1.out.res
  go_wp2_with fail
  refine bodyPost_ret (v := .agg #[.slice none 0 0, .int .i64 d]) ?_ rfl ?_
  · have q := S1.out.setres (.slice none 0 0) (.int .i64 d)
    simp [results, Tryz.results14, go_sem, q.1, q.2]
  · exact ⟨rfl, (S1.out.bel.setCell (p := ⟨w.heap.size + 2, 0, none⟩) (by simp) _).setCell (p := ⟨w.heap.size + 2, 1, none⟩) (by simp) _⟩

theorem rrest_any (va : Value) (ts : List T3) (ss : List S2) (lo hi c d : Int) (w : World) (h : RM w.heap.size va ts ss w) (hc : CheckIs ts ss c) (hd : InIs c lo hi d) (hlen : SOk lo hi → hi - lo ≤ 999999) :
    Calls Tryz.prog 14 #[va, sv2 lo hi] w (RListPost d (spn (notH (setB (lotsOf ts ss))) lo (hi + 1 - lo).toNat) w) := by
  by_cases h0 : d = 0
  · subst h0
    obtain ⟨rfl, hs⟩ := inIs_ok hd
    exact rrest_ok va ts ss lo hi w h hc hs (hlen hs)
  · refine (rrest_err va ts ss lo hi c d w h hc hd h0).mono ?_
    rintro e w' ⟨rfl, hb⟩
    exact ⟨_, [], d, rfl, rs_nil _ _, hb, .inl ⟨h0, rfl, rfl⟩⟩
end Go.Proofs.YtlhgpeelenelbaaGreatDoor
