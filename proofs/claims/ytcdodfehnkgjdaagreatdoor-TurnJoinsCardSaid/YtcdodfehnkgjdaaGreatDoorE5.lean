/- Contract of listed: spans as a list, if they are not too many. -/
import Derived.Test.YtcdodfehnkgjdaaGreatDoorE4
import Derived.Maps.OwnIn
namespace Go.Proofs.YtcdodfehnkgjdaaGreatDoor
open Go.RowKit
attribute [local go_sem] Oper.semAt_some

def cells2 (l : List S2) : List Value := l.flatMap fun x => [.int .i64 x.1, .int .i64 x.2]
theorem cells2_len (l : List S2) : (cells2 l).length = l.length * 2 := by
  induction l with
  | nil => rfl
  | cons x l ih =>
    have : cells2 (x :: l) = [.int .i64 x.1, .int .i64 x.2] ++ cells2 l := rfl
    rw [this, List.length_append, ih]; simp; omega
theorem cells2_snoc (l : List S2) (x : S2) : cells2 (l ++ [x]) = cells2 l ++ [.int .i64 x.1, .int .i64 x.2] := by simp [cells2, List.flatMap_append]
theorem cells2_at : ∀ (l : List S2) (k : Nat) (lo hi : Int), l[k]? = some (lo, hi) → (cells2 l)[k * 2]? = some (.int .i64 lo) ∧ (cells2 l)[k * 2 + 1]? = some (.int .i64 hi)
  | [], k, lo, hi, h => by cases h
  | x :: l, 0, lo, hi, h => by simp at h; subst h; exact ⟨rfl, rfl⟩
  | x :: l, k + 1, lo, hi, h => by
    have ih := cells2_at l k lo hi (by simpa using h)
    have e : cells2 (x :: l) = .int .i64 x.1 :: .int .i64 x.2 :: cells2 l := rfl
    rw [e, show (k + 1) * 2 = k * 2 + 2 by omega]
    exact ih
theorem infoSpan : (Tryz.prog.info? 45).map (fun i => (i.zero, i.size, i.bytes)) = some (some (.agg #[.int .i64 0, .int .i64 0]), 2, 16) := by kernel_rfl

theorem boxed_grownL {W W' : World} {B : Nat} {t : TypeId} {v : Value} {bs : List Nat} (h : Boxed W B t v) (hg : GrownL bs W W') (hn : B ∉ bs) : Boxed W' B t v := (hg.block B h.lt hn).trans h
theorem ownsRow_grownL {W W' : World} {base : Nat} {e : TypeId} {size n : Nat} {v : Value} {xs : List Value} {bs : List Nat} (h : W.ownsRow base e size v n xs) (hg : GrownL bs W W') (hn : ∀ g, v.ownBlock = some g → g ∉ bs) : W'.ownsRow base e size v n xs := by
  refine ⟨h.1, ?_⟩
  rcases h.2 with h' | ⟨g, cap, cur, rfl, hb, hgb, r⟩
  · exact .inl h'
  · exact .inr ⟨g, cap, cur, rfl, hb, (hg.block g (Array.getElem?_eq_some_iff.1 hgb).1 (hn g rfl)).trans hgb, r⟩
theorem rs_of_row {W : World} {base : Nat} {v : Value} {xs : List S2} (h : W.ownsRow base 45 2 v xs.length (cells2 xs)) (hl : xs.length ≤ 1000000000000) : RS W.heap.size v xs W := by
  rcases h.2 with ⟨rfl, h0⟩ | ⟨g, cap, cur, rfl, hb, hgb, r⟩
  · exact ⟨none, 0, by rw [h0], hl, fun hp => by omega⟩
  · refine ⟨_, cap, rfl, hl, fun hp => ⟨g, 0, rfl, (Array.getElem?_eq_some_iff.1 hgb).1, fun k lo hi hk => ?_⟩⟩
    have hkl := (List.getElem?_eq_some_iff.1 hk).1
    obtain ⟨c1, c2⟩ := cells2_at xs k lo hi hk
    rw [Nat.zero_add]
    exact ⟨(World.ownsRow.cellAt h (k * 2) (by omega)).trans c1, (World.ownsRow.cellAt h (k * 2 + 1) (by omega)).trans c2⟩

/-- What listed keeps between two spans. -/
def ListI (w : World) (O : List Nat) (pre : List S2) (W : World) : Prop :=
  pre.length ≤ 2000 ∧ (∀ o ∈ O, o < W.heap.size) ∧ Boxed W w.heap.size 23 (.slice none 0 0) ∧ Boxed W (w.heap.size + 1) 27 (.int .i64 0) ∧ Below w.heap.size w W ∧
  ∃ v, Boxed W (w.heap.size + 2) 23 v ∧ W.ownsRow (w.heap.size + 5) 45 2 v pre.length (cells2 pre) ∧ ∀ g, v.ownBlock = some g → g ∉ O
/-- What it leaves when they are too many. -/
def ListX (w : World) (c : Code) (_ : List Nat) (pre : List S2) (W : World) : Prop :=
  c = .ret ∧ 2000 < pre.length ∧ Boxed W w.heap.size 23 (.slice none 0 0) ∧ Boxed W (w.heap.size + 1) 27 (.int .i64 2) ∧ Below w.heap.size w W
def ListedPost (S Sp : List S2 → Prop) (w : World) (e : Ending) (w' : World) : Prop :=
  (∃ xs v, S xs ∧ xs.length ≤ 2000 ∧ e = .returned (.tuple #[v, .int .i64 0]) ∧ w'.ownsRow (w.heap.size + 5) 45 2 v xs.length (cells2 xs) ∧ Below w.heap.size w w') ∨
  (∃ pre, Sp pre ∧ 2000 < pre.length ∧ e = .returned (.tuple #[.slice none 0 0, .int .i64 2]) ∧ Below w.heap.size w w')

theorem not_book {n b : Nat} {O : List Nat} (hO : ∀ o ∈ O, n + 2 ≤ o) (hb : b < n) : b ∉ n :: (n + 1) :: O := by
  intro hm
  rcases List.mem_cons.1 hm with e | hm
  · omega
  rcases List.mem_cons.1 hm with e | hm
  · omega
  · have := hO _ hm; omega
theorem book_ge {n B : Nat} {O : List Nat} (hO : ∀ o ∈ O, n + 2 ≤ o) (hB : B ≤ n) : ∀ b ∈ n :: (n + 1) :: O, B ≤ b := by
  intro b hb
  rcases List.mem_cons.1 hb with e | hb
  · omega
  rcases List.mem_cons.1 hb with e | hb
  · omega
  · have := hO _ hb; omega

set_option maxHeartbeats 4000000 in
set_option maxRecDepth 1000000 in
theorem listed_any (gf : Nat) (lb : Array Value) (eg : ∀ args w, (callFunc gf args).run Tryz.prog w = .ok (.enter gf args) w) (S Sp : List S2 → Prop) (w : World)
    (hseq : SeqO Tryz.prog gf lb (fun x : S2 => #[sv2 x.1 x.2]) S Sp w) :
    Calls Tryz.prog 54 #[.func (.func gf) #[] lb] w (ListedPost S Sp w) := by
  obtain ⟨i0, hi, hz0, hz1, hz2⟩ := info_parts infoSpan
  have HEG := Lib.hid eg
  have HSEQ := Lib.hid hseq
  clear eg hseq
  refine (callsIn_wide (n := 3)).1 ?_
  refine callsIn_of_wp_marks Tryz.func54 rfl trivial ?_ rfl
  simp only [Tryz.ntmps54, List.size_toArray, List.length_cons, List.length_nil, Nat.reduceAdd, Nat.reduceSub, Array.replicate_succ, Array.replicate_zero, List.push_toArray, List.append_toArray, List.nil_append, List.cons_append]
  gi_wp2_with fail
  have hb3 : Below w.heap.size w (((w.alloc (.cells #[.slice none 0 0] 23)).alloc (.cells #[.int .i64 0] 27)).alloc (.cells #[.slice none 0 0] 23)) :=
    (((Below.refl w.heap.size w).alloc (Nat.le_refl _) _).alloc (by simp) _).alloc (by simp; omega) _
  have x0 := ((Boxed.new w 23 (.slice none 0 0)).alloc (.cells #[.int .i64 0] 27)).alloc (.cells #[.slice none 0 0] 23)
  have x1 := (Boxed.new (w.alloc (.cells #[.slice none 0 0] 23)) 27 (.int .i64 0)).alloc (.cells #[.slice none 0 0] 23)
  have x2 := Boxed.new ((w.alloc (.cells #[.slice none 0 0] 23)).alloc (.cells #[.int .i64 0] 27)) 23 (.slice none 0 0)
  simp only [World.size_alloc] at x0 x1 x2
  obtain ⟨W0, hW0⟩ : ∃ W0, (((w.alloc (.cells #[.slice none 0 0] 23)).alloc (.cells #[.int .i64 0] 27)).alloc (.cells #[.slice none 0 0] 23)) = W0 := ⟨_, rfl⟩
  have hz : W0.heap.size = w.heap.size + 3 := by rw [← hW0]; simp
  rw [hW0] at hb3 x0 x1 x2 ⊢
  have HZ := Lib.hid hz
  have HX := Lib.hid (And.intro x0 (And.intro x1 x2))
  have HB3 := Lib.hid hb3
  clear hW0 x0 x1 x2 hb3 hz
  refine wpIn_rangeO (gf := gf) (lb := lb) rfl HEG.out HSEQ.out HB3.out (fun _ => rfl) (ListI w) (ListX w) ?h0 ?hI ?hIx ?round ?done ?stop
  case h0 =>
    intro W' hb hsz
    have hz := HZ.out
    obtain ⟨x0, x1, x2⟩ := HX.out
    refine ⟨by simp, (fun o ho => by cases ho), (hb.block _ (by omega)).trans x0, (hb.block _ (by omega)).trans x1, HB3.out.trans (hb.mono (by omega)), _, (hb.block _ (by omega)).trans x2, World.ownsRow_nil _ _ _ _, fun g e => by cases e⟩
  case hI =>
    rintro O O' s W1 W2 hO ⟨hl, hlt, b0, b1, hB, v, b2, hrow, hv⟩ hg hcl
    have hz := HZ.out
    have hBs := hB.size
    refine ⟨hl, ?_, boxed_grownL b0 hg (not_book hO (by omega)), boxed_grownL b1 hg (not_book hO (by omega)), hB.trans (hg.below (book_ge hO (by omega)) (by omega)), v, boxed_grownL b2 hg (not_book hO (by omega)), ownsRow_grownL hrow hg ?_, ?_⟩
    · intro o ho
      have hs := hg.size
      rcases hcl o ho with h | h
      · have := hlt o h; omega
      · omega
    · intro g e hm
      have hgb := hrow.lt g e
      rcases List.mem_cons.1 hm with e' | hm
      · omega
      rcases List.mem_cons.1 hm with e' | hm
      · omega
      · exact hv g e hm
    · intro g e hm
      have hgb := hrow.lt g e
      rcases hcl g hm with h | h
      · exact hv g e h
      · omega
  case hIx =>
    rintro c O s W1 W2 hO ⟨hc, hl, b0, b1, hB⟩ hg
    have hz := HZ.out
    have hBs := hB.size
    exact ⟨hc, hl, boxed_grownL b0 hg (not_book hO (by omega)), boxed_grownL b1 hg (not_book hO (by omega)), hB.trans (hg.below (book_ge hO (by omega)) (by omega))⟩
  case round =>
    rintro O pre x W hO ⟨hl, hlt, b0, b1, hB, v, b2, hrow, hv⟩ hsz hsp
    have hz := HZ.out
    obtain ⟨Av, cv, rfl⟩ : ∃ Av cv, v = .slice Av pre.length cv := by
      rcases hrow.2 with ⟨rfl, h0⟩ | ⟨g, cap, cur, rfl, _⟩
      · exact ⟨none, 0, by rw [h0]⟩
      · exact ⟨_, _, rfl⟩
    obtain ⟨p, q⟩ := x
    have HSP := Lib.hid hsp
    have HO := Lib.hid (And.intro hO hlt)
    have HB := Lib.hid hB
    have HV := Lib.hid hv
    have HR := Lib.hid hrow
    have HBx := Lib.hid (And.intro b0 (And.intro b1 b2))
    clear hsp hO hlt hB hv hrow b0 b1 b2
    gi_wp2_with fail
    refine ⟨Keeps.of_below ((Below.refl _ _).alloc (Nat.le_refl _) _), fun W2 hg2 => ?_⟩
    obtain ⟨b0, b1, b2⟩ := HBx.out
    have d0 := boxed_grownL (b0.alloc (.cells #[.int .i64 p, .int .i64 q] 45)) hg2 (by simp; omega)
    have d1 := boxed_grownL (b1.alloc (.cells #[.int .i64 p, .int .i64 q] 45)) hg2 (by simp; omega)
    have d2 := boxed_grownL (b2.alloc (.cells #[.int .i64 p, .int .i64 q] 45)) hg2 (by simp; omega)
    have r2 := ownsRow_grownL (HR.out.alloc (.cells #[.int .i64 p, .int .i64 q] 45)) hg2 (fun g e hm => by have := (HR.out.lt g e).1; simp at hm; omega)
    have e0 : W2.cell? ⟨W.heap.size, 0, none⟩ = some (.int .i64 p) := hg2.cell (p := ⟨W.heap.size, 0, none⟩) (by simp [go_sem]) (by simp; omega)
    have e1 : W2.cell? ⟨W.heap.size, 1, none⟩ = some (.int .i64 q) := hg2.cell (p := ⟨W.heap.size, 1, none⟩) (by simp [go_sem]) (by simp; omega)
    have hs2 : W.heap.size + 1 ≤ W2.heap.size := by have := hg2.size; simpa using this
    have c2 := d2.cell
    have c0 := d0.cell
    have c1 := d1.cell
    have f0 := d0.frozen
    have f1 := d1.frozen
    have f2 := d2.frozen
    have HB2 := Lib.hid ((HB.out.alloc (by omega) (.cells #[.int .i64 p, .int .i64 q] 45)).trans (hg2.below (B := w.heap.size) (by intro b hb; simp at hb; omega) (by simp; omega)))
    have D := Lib.hid (And.intro d0 (And.intro d1 d2))
    have R2 := Lib.hid r2
    clear b0 b1 b2 d0 d1 d2 r2 hg2
    by_cases hfull : pre.length = 2000
    · have hf0 : ((pre.length : Int) == 2000) = true := by simp; omega
      have HF := Lib.hid hfull
      clear hfull
      gi_wp2_with fail
      obtain ⟨d0, d1, d2⟩ := D.out
      have m0 := d0.set (.slice none 0 0)
      have g1 := GrownL.set (bs := [w.heap.size, w.heap.size + 1]) W2 ⟨w.heap.size, 0, none⟩ (.slice none 0 0) (by simp)
      have g2 := GrownL.set (bs := [w.heap.size, w.heap.size + 1]) (W2.setCell ⟨w.heap.size, 0, none⟩ (.slice none 0 0)) ⟨w.heap.size + 1, 0, none⟩ (.int .i64 2) (by simp)
      have m1 := boxed_grownL m0 (GrownL.set (bs := [w.heap.size + 1]) _ ⟨w.heap.size + 1, 0, none⟩ (.int .i64 2) (by simp)) (by simp)
      have n1 := (boxed_grownL d1 (GrownL.set (bs := [w.heap.size]) W2 ⟨w.heap.size, 0, none⟩ (.slice none 0 0) (by simp)) (by simp)).set (.int .i64 2)
      refine ⟨Keeps.of_grown (g1.trans g2) (fun o ho hm => ?_), rfl, ?_, m1, n1, ?_⟩
      · simp at ho hm; omega
      · have := HF.out; simp; omega
      · exact (HB2.out.setCell (p := ⟨w.heap.size, 0, none⟩) (Nat.le_refl _) _).setCell (p := ⟨w.heap.size + 1, 0, none⟩) (Nat.le_succ _) _
    · have hf0 : ((pre.length : Int) == 2000) = false := by simp; omega
      have hlt2 : pre.length < 2000 := by omega
      clear hfull
      gi_wp2_with (gi_at_builtin; refine wpListIn_append_own_at _ rfl _ _ 23 rfl (w.heap.size + 5) 45 i0 (.agg #[.int .i64 0, .int .i64 0]) 2 16 Tryz.underlying23 hi hz0 hz1 hz2 rfl (by decide) _ pre.length _ rfl (R2.out.alloc _) ⟨W2.heap.size, 0, none⟩ 1 1 [.int .i64 p, .int .i64 q] rfl rfl ?c1 ?c2 ?c3 ?c4 ?c5 ?_)
      case c1 =>
        intro j u hj
        match j, hj with
        | 0, hj => simp at hj; subst hj; simp [go_sem, Addr.add]
        | 1, hj => simp at hj; subst hj; simp [go_sem, Addr.add]
        | j + 2, hj => simp at hj
      case c2 => intro u hu; simp at hu; rcases hu with rfl | rfl <;> rfl
      case c3 => unfold maxLen; omega
      case c4 => omega
      case c5 => simp; omega
      intro v' w4 hown' hgrow _ hat
      obtain ⟨d0, d1, d2⟩ := D.out
      obtain ⟨g', cap', rfl⟩ := ownsRow_succ hown'
      have q2 := (d2.alloc (.cells #[.int .i64 p, .int .i64 q] 45)).kept hgrow (d2.not_row (by decide) R2.out)
      have q0 := (d0.alloc (.cells #[.int .i64 p, .int .i64 q] 45)).kept hgrow (d0.not_row (by decide) R2.out)
      have q1 := (d1.alloc (.cells #[.int .i64 p, .int .i64 q] 45)).kept hgrow (d1.not_row (by decide) R2.out)
      have hc4 := q2.cell
      have hf4 := q2.frozen
      have Q := Lib.hid (And.intro q0 (And.intro q1 q2))
      have HOwn := Lib.hid hown'
      have HGrow := Lib.hid hgrow
      have HAt := Lib.hid hat
      clear d0 d1 d2 q0 q1 q2 hown' hgrow hat
      gi_wp2_with fail
      obtain ⟨q0, q1, q2⟩ := Q.out
      have hgr := HGrow.out
      have hgl := HOwn.out.lt g' rfl
      have hgS : GrownL ((w.heap.size + 2) :: (Value.ownBlock (.slice Av pre.length cv)).toList) W2 (w4.setCell ⟨w.heap.size + 2, 0, none⟩ (.slice (some ⟨g', 0, none⟩) (pre.length + 1) cap')) :=
        ⟨hgr.os, hgr.tape, hgr.output, by have := hgr.size; simp [go_sem] at this ⊢; omega, fun k hk hn => (Below.heap_setCell w4 ⟨w.heap.size + 2, 0, none⟩ _ k (fun e => hn (by have e' : k = w.heap.size + 2 := e; simp [e']))).trans
          ((hgr.block k (by simp; omega) (fun e => hn (by simp [← e]))).trans (Below.heap_alloc _ _ k hk))⟩
      have hvl : ∀ g, Value.ownBlock (.slice Av pre.length cv) = some g → w.heap.size + 5 ≤ g ∧ g < W.heap.size ∧ g ∉ O := fun g e => ⟨(HR.out.lt g e).1, (HR.out.lt g e).2, HV.out g e⟩
      have hsO := HO.out
      refine ⟨Keeps.of_grown hgS (fun o ho hm => ?_), ?_, ?_, ?_, ?_, ?_, _, q2.set _, ?_, ?_⟩
      · rcases List.mem_cons.1 hm with e | hm
        · simp at ho
          rcases ho with ho | ho | ho
          · omega
          · omega
          · have := hsO.1 o ho; omega
        · have := hvl o (by simpa using hm)
          simp at ho
          rcases ho with ho | ho | ho
          · omega
          · omega
          · exact this.2.2 ho
      · simp; omega
      · intro o ho
        have := hsO.2 o ho
        have := hgS.size
        show o < (w4.setCell ⟨w.heap.size + 2, 0, none⟩ (.slice (some ⟨g', 0, none⟩) (pre.length + 1) cap')).heap.size
        omega
      · exact boxed_grownL q0 (GrownL.set (bs := [w.heap.size + 2]) _ ⟨w.heap.size + 2, 0, none⟩ _ (by simp)) (by simp)
      · exact boxed_grownL q1 (GrownL.set (bs := [w.heap.size + 2]) _ ⟨w.heap.size + 2, 0, none⟩ _ (by simp)) (by simp)
      · exact HB2.out.trans (hgS.below (B := w.heap.size) (by intro b hb; rcases List.mem_cons.1 hb with e | hb; omega; have := hvl b (by simpa using hb); omega) (by omega))
      · have hk := HOwn.out.kept (grownBy_setCell' w4 (w.heap.size + 2) (.slice (some ⟨g', 0, none⟩) (pre.length + 1) cap')) (.inr (q2.not_row (by decide) HOwn.out).symm)
        rw [cells2_snoc]
        simpa using hk
      · intro g e hm
        have e' : g' = g := by simpa [Value.ownBlock] using e
        subst e'
        have := hsO.2 _ hm
        rcases HAt.out with h | h
        · exact (hvl g' (h ▸ rfl)).2.2 hm
        · have : g' = W2.heap.size + 1 := by simpa [Value.ownBlock] using h
          omega
  case done =>
    rintro O xs W hO hS ⟨hl, hlt, b0, b1, hB, v, b2, hrow, hv⟩ hK
    have hz := HZ.out
    obtain ⟨Av, cv, rfl⟩ : ∃ Av cv, v = .slice Av xs.length cv := by
      rcases hrow.2 with ⟨rfl, h0⟩ | ⟨g, cap, cur, rfl, _⟩
      · exact ⟨none, 0, by rw [h0]⟩
      · exact ⟨_, _, rfl⟩
    have c2 := b2.cell
    have c0 := b0.cell
    have c1 := b1.cell
    have f0 := b0.frozen
    have f1 := b1.frozen
    have f2 := b2.frozen
    have HS := Lib.hid hS
    have HB := Lib.hid hB
    have HR := Lib.hid hrow
    have HBx := Lib.hid (And.intro b0 b1)
    have HK := Lib.hid hK
    clear hS hB hrow b0 b1 b2 hK hv hlt hO
    gi_wp2_with fail
    have G1 : GrownL [w.heap.size, w.heap.size + 1, W0.heap.size] W (W.setCell ⟨w.heap.size, 0, none⟩ (.slice Av xs.length cv)) := GrownL.set _ _ _ (by simp)
    have G2 : GrownL [w.heap.size, w.heap.size + 1, W0.heap.size] W ((W.setCell ⟨w.heap.size, 0, none⟩ (.slice Av xs.length cv)).setCell ⟨w.heap.size + 1, 0, none⟩ (.int .i64 0)) := G1.trans (GrownL.set _ _ _ (by simp))
    obtain ⟨b0, b1⟩ := HBx.out
    have m0 := boxed_grownL (b0.set (.slice Av xs.length cv)) (GrownL.set (bs := [w.heap.size + 1]) _ ⟨w.heap.size + 1, 0, none⟩ (.int .i64 0) (by simp)) (by simp)
    have m1 := (boxed_grownL b1 (GrownL.set (bs := [w.heap.size]) W ⟨w.heap.size, 0, none⟩ (.slice Av xs.length cv) (by simp)) (by simp)).set (.int .i64 0)
    have hK5 : ((W.setCell ⟨w.heap.size, 0, none⟩ (.slice Av xs.length cv)).setCell ⟨w.heap.size + 1, 0, none⟩ (.int .i64 0)).heap[W0.heap.size]? = some (.deferred (some [])) :=
      ((Below.heap_setCell _ ⟨w.heap.size + 1, 0, none⟩ _ _ (by show W0.heap.size ≠ w.heap.size + 1; omega)).trans (Below.heap_setCell _ ⟨w.heap.size, 0, none⟩ _ _ (by show W0.heap.size ≠ w.heap.size; omega))).trans HK.out
    have p0 := (boxed_grownL m0 (GrownL.putObj (bs := [W0.heap.size]) _ W0.heap.size (.deferred none) (by simp)) (by simp; omega)).cell
    have p1 := (boxed_grownL m1 (GrownL.putObj (bs := [W0.heap.size]) _ W0.heap.size (.deferred none) (by simp)) (by simp; omega)).cell
    have G3 := G2.trans (GrownL.putObj (bs := [w.heap.size, w.heap.size + 1, W0.heap.size]) _ W0.heap.size (.deferred none) (by simp))
    refine ⟨by simp, .inl ⟨_, _, rfl, run_takeDeferred hK5, ?_⟩⟩
    refine ⟨.tuple #[.slice Av xs.length cv, .int .i64 0], by simp [results, Tryz.results54, go_sem, p0, p1], .inl ⟨xs, _, HS.out, hl, rfl, ?_, ?_⟩⟩
    · exact ownsRow_grownL HR.out G3 (fun g e hm => by have := (HR.out.lt g e).1; simp at hm; omega)
    · exact HB.out.trans (G3.below (by intro b hb; simp at hb; omega) (by have := HB.out.size; omega))
  case stop =>
    rintro c O pre W hO hS ⟨rfl, hl, b0, b1, hB⟩ hK
    have hz := HZ.out
    have HS := Lib.hid hS
    have HB := Lib.hid hB
    have HK := Lib.hid hK
    have p0 := (boxed_grownL b0 (GrownL.putObj (bs := [W0.heap.size]) _ W0.heap.size (.deferred none) (by simp)) (by simp; omega)).cell
    have p1 := (boxed_grownL b1 (GrownL.putObj (bs := [W0.heap.size]) _ W0.heap.size (.deferred none) (by simp)) (by simp; omega)).cell
    have G3 := GrownL.putObj (bs := [W0.heap.size]) W W0.heap.size (.deferred none) (by simp)
    clear hS hB hK b0 b1
    gi_wp2_with fail
    refine ⟨by simp, .inl ⟨_, _, rfl, run_takeDeferred HK.out, ?_⟩⟩
    refine ⟨.tuple #[.slice none 0 0, .int .i64 2], by simp [results, Tryz.results54, go_sem, p0, p1], .inr ⟨pre, HS.out, hl, rfl, ?_⟩⟩
    exact HB.out.trans (G3.below (by intro b hb; simp at hb; omega) (by have := HB.out.size; omega))
end Go.Proofs.YtcdodfehnkgjdaaGreatDoor
