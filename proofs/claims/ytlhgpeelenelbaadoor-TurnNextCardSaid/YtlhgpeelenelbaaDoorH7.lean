/- Contract of Parse, where the second way's first part fails. -/
import Derived.Test.YtlhgpeelenelbaaDoorH6
import Derived.Deep.RegionLawGrows
import Derived.Maps.AppendAt
import Derived.Laws.EntriesVeiled
namespace Go.Proofs.YtlhgpeelenelbaaDoor
open Go.RowKit

set_option maxHeartbeats 4000000 in
set_option maxRecDepth 1000000 in
theorem parse_span_fails (s : ByteArray) (a : Nat) (w : World) (h1 : 1 ≤ s.size) (h2 : s.size ≤ 3000) (hb : (s[0]'h1).toNat ≠ 101) (hf : (spanF s.data.toList (0, false)).2 = (a, true)) :
    Calls Tryd.prog 53 #[.string s] w (ParseFail a w) := by
  obtain ⟨i0, hi, hz0, hz1, hz2⟩ := info_parts infoSpan'
  have hle : ¬ (3000 < (s.size : Int)) := by omega
  have h1' : (0 : Int) < (s.size : Int) := by omega
  have hb' : (((s[0]'h1).toNat : Int) == 101) = false := by simp; omega
  have hb2 : (((s[0]'h1).toNat : Int) == (((⟨#[101, 118, 101, 114, 121, 32]⟩ : ByteArray)[0]'(by decide)).toNat : Int)) = false := hb'
  go_enter Tryd.func53, Tryd.ntmps53
  go_wp2_with fail
  obtain ⟨W0, hW0⟩ : ∃ W0, ((((w.alloc (.cells #[.string s] 9)).alloc (.cells #[.slice none 0 0, .slice none 0 0] 25)).alloc (.cells #[.int .i64 0] 3)).alloc (.cells #[.func (.func 111) #[] #[.pointer (some ⟨w.heap.size + 1 + 1, 0, none⟩), .pointer (some ⟨w.heap.size, 0, none⟩)], .bool false] 140)).alloc (.cells #[.slice none 0 0, .slice none 0 0] 25) = W0 := ⟨_, rfl⟩
  have hz : W0.heap.size = w.heap.size + 5 := by rw [← hW0]; simp
  have hbw : Below w.heap.size w W0 := by
    rw [← hW0]
    exact (((((Below.refl w.heap.size w).alloc (Nat.le_refl _) _).alloc (by simp) _).alloc (by simp; omega) _).alloc (by simp; omega) _).alloc (by simp; omega) _
  have x0 : W0.heap[w.heap.size]? = some (.cells #[.string s] 9 (0, 0)) := by
    rw [← hW0]
    refine (Below.heap_alloc _ _ _ (by simp; omega)).trans ((Below.heap_alloc _ _ _ (by simp; omega)).trans ((Below.heap_alloc _ _ _ (by simp; omega)).trans ((Below.heap_alloc _ _ _ (by simp)).trans (World.alloc_heap_new w _))))
  have x1 : W0.heap[w.heap.size + 1]? = some (.cells #[.slice none 0 0, .slice none 0 0] 25 (0, 0)) := by
    rw [← hW0]
    refine (Below.heap_alloc _ _ _ (by simp <;> omega)).trans ((Below.heap_alloc _ _ _ (by simp <;> omega)).trans ((Below.heap_alloc _ _ _ (by simp)).trans ?_))
    have := World.alloc_heap_new (w.alloc (.cells #[.string s] 9)) (.cells #[.slice none 0 0, .slice none 0 0] 25)
    rwa [World.size_alloc] at this
  have x2 : W0.heap[w.heap.size + 1 + 1]? = some (.cells #[.int .i64 0] 3 (0, 0)) := by
    rw [← hW0]
    refine (Below.heap_alloc _ _ _ (by simp)).trans ((Below.heap_alloc _ _ _ (by simp)).trans ?_)
    have := World.alloc_heap_new ((w.alloc (.cells #[.string s] 9)).alloc (.cells #[.slice none 0 0, .slice none 0 0] 25)) (.cells #[.int .i64 0] 3)
    rwa [World.size_alloc, World.size_alloc] at this
  have x3 : W0.heap[w.heap.size + 1 + 1 + 1]? = some (.cells #[.func (.func 111) #[] #[.pointer (some ⟨w.heap.size + 1 + 1, 0, none⟩), .pointer (some ⟨w.heap.size, 0, none⟩)], .bool false] 140 (0, 0)) := by
    rw [← hW0]
    refine (Below.heap_alloc _ _ _ (by simp)).trans ?_
    have := World.alloc_heap_new (((w.alloc (.cells #[.string s] 9)).alloc (.cells #[.slice none 0 0, .slice none 0 0] 25)).alloc (.cells #[.int .i64 0] 3)) (.cells #[.func (.func 111) #[] #[.pointer (some ⟨w.heap.size + 1 + 1, 0, none⟩), .pointer (some ⟨w.heap.size, 0, none⟩)], .bool false] 140)
    rwa [World.size_alloc, World.size_alloc, World.size_alloc] at this
  have x4 : W0.heap[w.heap.size + 1 + 1 + 1 + 1]? = some (.cells #[.slice none 0 0, .slice none 0 0] 25 (0, 0)) := by
    rw [← hW0]
    have := World.alloc_heap_new ((((w.alloc (.cells #[.string s] 9)).alloc (.cells #[.slice none 0 0, .slice none 0 0] 25)).alloc (.cells #[.int .i64 0] 3)).alloc (.cells #[.func (.func 111) #[] #[.pointer (some ⟨w.heap.size + 1 + 1, 0, none⟩), .pointer (some ⟨w.heap.size, 0, none⟩)], .bool false] 140)) (.cells #[.slice none 0 0, .slice none 0 0] 25)
    rwa [World.size_alloc, World.size_alloc, World.size_alloc, World.size_alloc] at this
  have hrd : RdAt (w.heap.size + 1 + 1) w.heap.size (w.heap.size + 1 + 1 + 1) s (0, false) W0 := ⟨x2, x0, x3⟩
  have TN := Lib.hid (fun W (h : RdAt (w.heap.size + 1 + 1) w.heap.size (w.heap.size + 1 + 1 + 1) s (0, false) W) => readSpan_any (w.heap.size + 1 + 1) w.heap.size (w.heap.size + 1 + 1 + 1) s (0, false) W h (by simp) (by omega))
  obtain ⟨⟨⟨tp, tf⟩, st⟩, hr⟩ : ∃ q, spanF s.data.toList (0, false) = q := ⟨_, rfl⟩
  rw [hr] at hf TN
  simp only at hf
  subst hf
  simp only at TN
  rw [hW0]
  have X := Lib.hid (And.intro x1 (And.intro x4 (And.intro hbw hrd)))
  have c0 := heap_cell x0 0
  have c2 := heap_cell x2 0
  have c40 := heap_cell x4 0
  have c41 := heap_cell x4 1
  have f40 := heap_frozen x4 0
  simp only [List.getElem?_toArray, List.getElem?_cons_zero, List.getElem?_cons_succ] at c0 c2 c40 c41
  clear hW0 x0 x1 x2 x3 x4 hr hbw hrd
  refine wp_loop_rounds 1 ?_
  rw [rounds_succ]
  go_wp2_with fail
  go_quiet ((fail))
  all_goals go_wp2_with fail
  obtain ⟨W1, hW1⟩ : ∃ W1, W0.drewN nq = W1 := ⟨_, rfl⟩
  rw [hW1]
  have X1 : Hid (W1.heap[w.heap.size + 1]? = some (.cells #[.slice none 0 0, .slice none 0 0] 25 (0, 0)) ∧ W1.heap[w.heap.size + 1 + 1 + 1 + 1]? = some (.cells #[.slice none 0 0, .slice none 0 0] 25 (0, 0)) ∧ Below w.heap.size w W1 ∧ RdAt (w.heap.size + 1 + 1) w.heap.size (w.heap.size + 1 + 1 + 1) s (0, false) W1 ∧ w.heap.size + 5 ≤ W1.heap.size) := Lib.hid (by
    rw [← hW1]
    obtain ⟨q1, q2, q3, q4⟩ := X.out
    exact ⟨q1, q2, ⟨q3.os, q3.tape, q3.output, q3.size, q3.block⟩, q4, by show _ ≤ W0.heap.size; omega⟩)
  clear c0 c2 c40 c41 f40 X hW1
  have c40 := heap_cell X1.out.2.1 1
  have f40 := heap_frozen X1.out.2.1 1
  simp only [List.getElem?_toArray, List.getElem?_cons_zero, List.getElem?_cons_succ] at c40
  have HN : Hid (w.heap.size + 1 + 1 + 1 + 1 ∉ [w.heap.size + 1 + 1, w.heap.size + 1 + 1 + 1] ∧ w.heap.size + 1 ∉ [w.heap.size + 1 + 1, w.heap.size + 1 + 1 + 1]) := Lib.hid (by simp <;> omega)
  go_region_law (first
    | (refine step_append_grows rfl (.tmp 37) (.tmp 39) 23 rfl 49 i0 (.agg #[.int .i64 0, .int .i64 0]) 2 16 Tryd.underlying23 hi hz0 hz1 hz2 rfl (by decide) none 0 0 [] (by simp [Act.eval, Act.put]) (fun _ => ⟨rfl, rfl⟩) rfl (fun b e => by cases e) ⟨w4.heap.size, 0, none⟩ 1 1 [.int .i64 tp, .int .i64 tf] (by simp [Act.eval, Act.put]) rfl (cells2_new _ _ _ _) (one2 _ _) (by decide) (by decide) (by decide) ?_; intro v' w5 hown hgrow; obtain ⟨g', cap', rfl⟩ := ownsRow_succ hown; have hb5 := ((Below.refl w4.heap.size w4).alloc (Nat.le_refl _) (.cells #[.int .i64 tp, .int .i64 tf] 49)).trans ((grown_below hgrow).mono (by simp)); have h51 := (hb5.block _ (Array.getElem?_eq_some_iff.1 H4.out.2.2.1).1).trans H4.out.2.2.1; have d50 := heap_cell h51 1; have g50 := heap_frozen h51 1; simp only [List.getElem?_toArray, List.getElem?_cons_zero, List.getElem?_cons_succ] at d50; have H5 := Lib.hid (And.intro hb5 h51); clear hown hgrow hb5 h51)
    | (go_simp; go_at_call 113; refine (TN.out W1.drew X1.out.2.2.2.1).mono ?_; rintro e w4 ⟨rfl, hr4, hg4⟩; have h41 := (hg4.block _ (Array.getElem?_eq_some_iff.1 X1.out.2.1).1 HN.out.1).trans X1.out.2.1; have h42 := (hg4.block _ (Array.getElem?_eq_some_iff.1 X1.out.1).1 HN.out.2).trans X1.out.1; have d40 := heap_cell h41 1; have g40 := heap_frozen h41 1; simp only [List.getElem?_toArray, List.getElem?_cons_zero, List.getElem?_cons_succ] at d40; have l40 := (Array.getElem?_eq_some_iff.1 h41).1; have d40' : ∀ o, (w4.alloc o).cell? ⟨w.heap.size + 1 + 1 + 1 + 1, 1, none⟩ = some (.slice none 0 0) := fun o => (World.cell?_alloc_lt _ _ _ l40).trans d40; have H4 := Lib.hid (And.intro hr4 (And.intro hg4 (And.intro h41 h42))); clear hr4 hg4 h41 h42))
  all_goals
    have hrd5 := (H4.out.1.grown (bs := []) (GrownL.of_below H5.out.1) (by simp) (by simp) (by simp))
    have gS : GrownL [w.heap.size + 1 + 1 + 1 + 1] w5 (w5.setCell ⟨w.heap.size + 1 + 1 + 1 + 1, 1, none⟩ (.slice (some ⟨g', 0, none⟩) (0 + 1) cap')) := GrownL.set _ _ _ (by simp)
    have hrd6 := hrd5.grown gS (by simp <;> omega) (by simp <;> omega) (by simp <;> omega)
    have h62 := (gS.block _ (Array.getElem?_eq_some_iff.1 ((H5.out.1.block _ (Array.getElem?_eq_some_iff.1 H4.out.2.2.2).1).trans H4.out.2.2.2)).1 (by simp)).trans ((H5.out.1.block _ (Array.getElem?_eq_some_iff.1 H4.out.2.2.2).1).trans H4.out.2.2.2)
    have kr := hrd6.r1
    have ka := hrd6.1.cell
    have k0 := heap_cell h62 0
    have k1 := heap_cell h62 1
    have kf0 := heap_frozen h62 0
    have kf1 := heap_frozen h62 1
    simp only [List.getElem?_toArray, List.getElem?_cons_zero, List.getElem?_cons_succ] at k0 k1
    have H6 := Lib.hid (And.intro hrd6 (And.intro h62 gS))
    have hsz4 := H4.out.2.1.size
    have hsz5 := H5.out.1.size
    clear hrd5 gS hrd6 h62
    go_wp2_with fail
    go_region
  all_goals go_wp2_with fail
  all_goals
    have hB5 := H5.out.1
    have h62 : (w5.setCell ⟨w.heap.size + 1 + 1 + 1 + 1, 1, none⟩ (.slice (some ⟨g', 0, none⟩) 1 cap')).heap[w.heap.size + 1]? = some (.cells #[.slice none 0 0, .slice none 0 0] 25 (0, 0)) := H6.out.2.1
    have hB6 : Below w.heap.size w5 (w5.setCell ⟨w.heap.size + 1 + 1 + 1 + 1, 1, none⟩ (.slice (some ⟨g', 0, none⟩) 1 cap')) := (Below.refl _ _).setCell (p := ⟨w.heap.size + 1 + 1 + 1 + 1, 1, none⟩) (by show w.heap.size ≤ w.heap.size + 4; omega) _
    clear k0 k1 kf0 kf1 kr ka
    obtain ⟨W6, hW6⟩ : ∃ W6, w5.setCell ⟨w.heap.size + 1 + 1 + 1 + 1, 1, none⟩ (.slice (some ⟨g', 0, none⟩) 1 cap') = W6 := ⟨_, rfl⟩
    rw [hW6] at h62 hB6 ⊢
    have q := set2_0 (v := .slice none 0 0) h62
    have q2 := set2_1 (v := .slice none 0 0) q
    have p0 := heap_cell q 0
    have q0 := heap_cell q2 0
    have q1 := heap_cell q2 1
    simp only [List.getElem?_toArray, List.getElem?_cons_zero, List.getElem?_cons_succ] at p0 q0 q1
    refine bodyPost_ret (v := .tuple #[.agg #[.slice none 0 0, .slice none 0 0], .int .i64 7, .int .i64 a]) (by simp [results, Tryd.results53, go_sem, p0, q0, q1]) rfl ⟨rfl, ?_⟩
    have hB1 : Below w.heap.size w W1 := X1.out.2.2.1
    have hB4 : Below w.heap.size W1 w4 := by
      have hg := H4.out.2.1
      exact ⟨hg.os, hg.tape, hg.output, hg.size, fun k hk => hg.block k (by have := X1.out.2.2.2.2; show k < W1.heap.size; omega) (by simp; omega)⟩
    have hsz4' : w.heap.size ≤ w4.heap.size := by have := X1.out.2.2.2.2; have h4 : W1.heap.size ≤ w4.heap.size := hsz4; omega
    exact (((((hB1.trans hB4).trans (hB5.mono hsz4')).trans hB6).setCell (p := ⟨w.heap.size + 1, 0, none⟩) (by show w.heap.size ≤ w.heap.size + 1; omega) _).setCell (p := ⟨w.heap.size + 1, 1, none⟩) (by show w.heap.size ≤ w.heap.size + 1; omega) _).drew
end Go.Proofs.YtlhgpeelenelbaaDoor
