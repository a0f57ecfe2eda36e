/- Contracts of cmp.Compare at int, of the closure that tells which span begins first; what a sorted row is. -/
import Derived.Test.YtcdodfehnkgjdaaGreatDoorYU
import Derived.Shelf.SlSortCmp.InsertionK
import Derived.Laws.IdiomCopy
import Derived.Shelf.SlSortCmp.WholeK
namespace Go.Proofs.YtcdodfehnkgjdaaGreatDoor
open Go.RowKit Go.Sort

theorem isNaN_any (x : Int) (w : World) : Calls Tryz.prog 83 #[.int .i64 x] w fun e w' => e = .returned (.bool false) ∧ w = w' := by
  have h : (x != x) = false := by simp
  go_enter Tryz.func83, Tryz.ntmps83
  go_wp2_with fail
  go_ret
  exact ⟨rfl, rfl⟩
def cmpI (x y : Int) : Int := if x < y then -1 else if y < x then 1 else 0
theorem compare_any (x y : Int) (w : World) : Calls Tryz.prog 67 #[.int .i64 x, .int .i64 y] w fun e w' => e = .returned (.int .i64 (cmpI x y)) ∧ w = w' := by
  have HC : Hid (cmpI x y = if x < y then -1 else if y < x then 1 else 0) := Lib.hid rfl
  have N := Lib.hid isNaN_any
  by_cases c : x < y
  · go_enter Tryz.func67, Tryz.ntmps67
    go_wp2_with (go_at_call 83; refine (N.out _ _).mono ?_; rintro e w4 ⟨rfl, rfl⟩)
    go_ret
    exact ⟨ret_int (by rw [HC.out, if_pos c]), rfl⟩
  · by_cases c' : y < x
    · go_enter Tryz.func67, Tryz.ntmps67
      go_wp2_with (go_at_call 83; refine (N.out _ _).mono ?_; rintro e w4 ⟨rfl, rfl⟩)
      go_ret
      exact ⟨ret_int (by rw [HC.out, if_neg (by omega), if_pos c']), rfl⟩
    · go_enter Tryz.func67, Tryz.ntmps67
      go_wp2_with (go_at_call 83; refine (N.out _ _).mono ?_; rintro e w4 ⟨rfl, rfl⟩)
      go_ret
      exact ⟨ret_int (by rw [HC.out, if_neg (by omega), if_neg (by omega)]), rfl⟩

def encS (x : Int × Int) : List Value := [.int .i64 x.1, .int .i64 x.2]
def cfS (x y : Int × Int) : Int := cmpI x.1 y.1
set_option maxHeartbeats 1000000 in
theorem joined1_any (x y : Int × Int) (W : World) : Calls Tryz.prog 66 #[.agg #[.int .i64 x.1, .int .i64 x.2], .agg #[.int .i64 y.1, .int .i64 y.2]] W fun e w' => e = .returned (.int .i64 (cfS x y)) ∧ ∃ q os', w' = grow (W.drewN q) os' := by
  have C := Lib.hid fun W => compare_any x.1 y.1 W
  have HC : Hid (cfS x y = cmpI x.1 y.1) := Lib.hid rfl
  generalize cmpI x.1 y.1 = r at *
  go_enter Tryz.func66, Tryz.ntmps66
  go_wp2_with (go_at_call 67; refine (C.out _).mono ?_; rintro e w4 ⟨rfl, rfl⟩)
  go_ret
  exact ⟨ret_int HC.out.symm, 0, _, by rw [alloc_eq_grow, alloc_eq_grow, grow_grow]; rfl⟩
theorem cmpLaysS (blk off size : Nat) (w : World) : CmpLays Tryz.prog 66 #[] encS 2 cfS blk off size w := fun _ _ _ _ x y => joined1_any x y _
theorem ltS (x y : Int × Int) : ltOf cfS x y = decide (x.1 < y.1) := by
  unfold ltOf cfS cmpI
  by_cases h1 : x.1 < y.1
  · simp [h1]
  · by_cases h2 : y.1 < x.1 <;> simp [h1, h2]
theorem swoS : SWO (ltOf cfS) where
  irrefl x := by rw [ltS]; simp
  trans x y z h1 h2 := by rw [ltS] at *; simp at *; omega
  ntrans x y z h1 h2 := by rw [ltS] at *; simp at *; omega
theorem encS_one : ∀ x, ∀ v ∈ encS x, v.oneCell' = true := fun x v hv => by
  simp [encS] at hv
  rcases hv with rfl | rfl <;> rfl
theorem enters_joined1 : ∀ args w, (callFunc 66 args).run Tryz.prog w = .ok (.enter 66 args) w := enters_of Tryz.func66 (by kernel_rfl) rfl
end Go.Proofs.YtcdodfehnkgjdaaGreatDoor

/- Spans in a row, and what a sort leaves of them. -/
namespace Go.Proofs.YtcdodfehnkgjdaaGreatDoor
open Go.RowKit

theorem flat_at (l : List S2) (j : Nat) (hj : j < l.length * 2) : (cells2 l)[j]? = some ((Sort.flatK encS 2 l.toArray)[j]!) := by
  rw [Sort.get_flatK encS 2 l.toArray j (by simpa using hj)]
  have hk : j / 2 < l.length := by omega
  obtain ⟨⟨lo, hi⟩, hx⟩ : ∃ x, l[j / 2]? = some x := ⟨_, List.getElem?_eq_getElem hk⟩
  obtain ⟨c0, c1⟩ := cells2_at l (j / 2) lo hi hx
  have e : (l.toArray[j / 2]! : Int × Int) = (lo, hi) := by simp [hx]
  rw [e]
  rcases Nat.mod_two_eq_zero_or_one j with h | h
  · have : j = j / 2 * 2 := by omega
    rw [h, this, c0]
    rfl
  · have : j = j / 2 * 2 + 1 := by omega
    rw [h, this, c1]
    rfl
theorem flat_list (l : List S2) : (Sort.flatK encS 2 l.toArray).toList = cells2 l := by
  apply List.ext_getElem?
  intro j
  by_cases hj : j < l.length * 2
  · rw [flat_at l j hj]
    have hs : j < (Sort.flatK encS 2 l.toArray).size := by simpa using hj
    rw [Array.getElem?_toList, Array.getElem?_eq_getElem hs, getElem!_pos _ j hs]
  · rw [List.getElem?_eq_none (by simp; omega), List.getElem?_eq_none (by rw [cells2_len]; omega)]
theorem OwnS.len_eq {base n cap : Nat} {A : Option Addr} {l : List S2} {W : World} (h : OwnS base (.slice A n cap) l W) : n = l.length := by
  obtain ⟨A', c, e, _⟩ := h.form
  simp only [Value.slice.injEq] at e
  exact e.2.1
theorem OwnS.holds {base g n cap : Nat} {l : List S2} {W : World} (h : OwnS base (.slice (some ⟨g, 0, none⟩) n cap) l W) : Sort.HoldsK encS 2 W g 0 l.toArray := by
  obtain rfl := h.len_eq
  intro j hj
  have hj' : j < l.length * 2 := by simpa using hj
  rw [Nat.zero_add]
  refine ⟨(World.ownsRow.cellAt h j hj').trans (flat_at l j hj'), ?_⟩
  rcases h.2 with ⟨e, _⟩ | ⟨g', cap', cur, e, _, hb, _⟩
  · cases e
  · simp only [Value.slice.injEq, Option.some.injEq, Addr.mk.injEq] at e
    obtain ⟨⟨rfl, -, -⟩, -⟩ := e
    simp [World.frozen?, hb]
theorem heap_mapBlock {W : World} {g : Nat} {f : Array Value → Array Value} {c : Array Value} {e : TypeId} {fr : Nat × Nat} (h : W.heap[g]? = some (.cells c e fr)) : (Sort.mapBlock W g f).heap[g]? = some (.cells (f c) e fr) := by
  unfold Sort.mapBlock
  simp [Array.getElem?_modify, h, Sort.onCells]
theorem heap_mapBlock_ne {W : World} {g b : Nat} {f : Array Value → Array Value} (h : b ≠ g) : (Sort.mapBlock W g f).heap[b]? = W.heap[b]? := by
  unfold Sort.mapBlock
  simp [Array.getElem?_modify, Ne.symm h]
/-- What the sort leaves. -/
theorem OwnS.sorted {base g n cap : Nat} {l l' : List S2} {W : World} (h : OwnS base (.slice (some ⟨g, 0, none⟩) n cap) l W) (hl : l'.length = l.length) (m : Nat) (os : Array Obj) :
    OwnS base (.slice (some ⟨g, 0, none⟩) n cap) l' (sortWorldK encS 2 W g 0 m l'.toArray os) ∧ GrownL [g] W (sortWorldK encS 2 W g 0 m l'.toArray os) := by
  have hg := (h.lt g rfl)
  constructor
  · refine ⟨by rw [cells2_len], ?_⟩
    rcases h.2 with ⟨e, _⟩ | ⟨g', cap', cur, e, h1, hb, h2, h3, h4, h5⟩
    · cases e
    · simp only [Value.slice.injEq, Option.some.injEq, Addr.mk.injEq] at e
      obtain ⟨⟨rfl, -, -⟩, rfl, rfl⟩ := e
      right
      refine ⟨g, cap, Sort.putCells id 0 (Sort.flatK encS 2 l'.toArray) cur, by rw [hl], h1, ?_, by omega, h3, ?_, ?_⟩
      · show (Sort.grow _ os).heap[g]? = _
        rw [Sort.heap_grow_old _ _ (by simpa [Sort.putRowK] using hg.2)]
        exact heap_mapBlock hb
      · simp [Sort.putCells, h4]
      · apply List.ext_getElem?
        intro j
        by_cases hj : j < l'.length * 2
        · rw [flat_at l' j hj, List.getElem?_take, if_pos hj, Array.getElem?_toList]
          have hjc : j < cur.size := by
            rw [h4]
            have : l.length * 2 ≤ cap * 2 := Nat.mul_le_mul_right _ h2
            omega
          have hf : j < (Sort.flatK encS 2 l'.toArray).size := by simpa using hj
          simp [Sort.putCells, hjc, hj]
        · rw [List.getElem?_eq_none (by rw [List.length_take]; omega), List.getElem?_eq_none (by rw [cells2_len]; omega)]
  · refine ⟨rfl, rfl, rfl, ?_, fun b hb hn => ?_⟩
    · show W.heap.size ≤ (Sort.grow _ os).heap.size
      rw [Sort.size_grow]
      simp [Sort.putRowK]
    · show (Sort.grow _ os).heap[b]? = _
      rw [Sort.heap_grow_old _ _ (by simpa [Sort.putRowK] using hb)]
      exact heap_mapBlock_ne (by simpa using hn)
/-- A sorted row of the same spans. -/
theorem sorted_of {l : List S2} {d : Array S2} (hp : Sort.PermIn 0 l.toArray.size l.toArray d) (hs : Sort.SortedIn (ltOf cfS) 0 l.toArray.size d) (hv : ∀ x ∈ l, x.1 ≤ x.2) : d.toList.length = l.length ∧ Sorted1 d.toList ∧ ∀ x, x ∈ d.toList ↔ x ∈ l := by
  obtain ⟨h1, -, h2⟩ := hp
  have h3 : d.toList.Perm l := by
    have e1 : d.extract 0 l.toArray.size = d := by rw [← h1]; exact Array.extract_size
    have e2 : l.toArray.extract 0 l.toArray.size = l.toArray := Array.extract_size
    rw [e1, e2] at h2
    exact h2
  have hm : ∀ x, x ∈ d.toList ↔ x ∈ l := fun x => h3.mem_iff
  refine ⟨h3.length_eq, ⟨fun x hx => hv x ((hm x).1 hx), fun i j x y hi hj hij => ?_⟩, hm⟩
  rcases Nat.lt_or_ge i j with c | c
  · obtain ⟨hi1, hi2⟩ := List.getElem?_eq_some_iff.1 hi
    obtain ⟨hj1, hj2⟩ := List.getElem?_eq_some_iff.1 hj
    have := hs i j (Nat.zero_le _) c (by rw [← h1]; simpa using hj1)
    rw [ltS] at this
    have ei : d[i]! = x := by rw [← hi2]; simp [show i < d.size by simpa using hi1]
    have ej : d[j]! = y := by rw [← hj2]; simp [show j < d.size by simpa using hj1]
    rw [ei, ej] at this
    simpa using this
  · obtain rfl : i = j := by omega
    rw [hi] at hj
    cases hj
    exact Int.le_refl _
theorem inS_mem {a b : List S2} (h : ∀ x, x ∈ a ↔ x ∈ b) (m : Int) : inS a m = inS b m := by
  rw [Bool.eq_iff_iff, inS_iff, inS_iff]
  constructor
  · rintro ⟨x, hx, h'⟩
    exact ⟨x, (h x).1 hx, h'⟩
  · rintro ⟨x, hx, h'⟩
    exact ⟨x, (h x).2 hx, h'⟩
end Go.Proofs.YtcdodfehnkgjdaaGreatDoor

/- Contract of joined: spans sorted, and joined in place. -/
namespace Go.Proofs.YtcdodfehnkgjdaaGreatDoor
open Go.RowKit

/-- Spans in block g, which nothing keeps from being written. -/
structure SpR (g : Nat) (M : List S2) (W : World) : Prop where
  lt : g < W.heap.size
  fz : ∀ j, W.frozen? ⟨g, j, none⟩ = false
  at_ : ∀ i lo hi, M[i]? = some (lo, hi) → W.cell? ⟨g, i * 2, none⟩ = some (.int .i64 lo) ∧ W.cell? ⟨g, i * 2 + 1, none⟩ = some (.int .i64 hi)
theorem OwnS.spr {base g n cap : Nat} {l : List S2} {W : World} (h : OwnS base (.slice (some ⟨g, 0, none⟩) n cap) l W) : SpR g l W := by
  refine ⟨(h.lt g rfl).2, fun j => ?_, fun i lo hi hi' => ?_⟩
  · rcases h.2 with ⟨e, _⟩ | ⟨g', cap', cur, e, _, hb, _⟩
    · cases e
    · simp only [Value.slice.injEq, Option.some.injEq, Addr.mk.injEq] at e
      obtain ⟨⟨rfl, -, -⟩, -⟩ := e
      simp [World.frozen?, hb]
  · have hk := (List.getElem?_eq_some_iff.1 hi').1
    obtain rfl := h.len_eq
    obtain ⟨c0, c1⟩ := cells2_at l i lo hi hi'
    exact ⟨(World.ownsRow.cellAt h (i * 2) (by omega)).trans c0, (World.ownsRow.cellAt h (i * 2 + 1) (by omega)).trans c1⟩
section
variable {g : Nat} {M : List S2} {W W' : World}
theorem SpR.below (h : SpR g M W) (hb : Below W.heap.size W W') : SpR g M W' :=
  ⟨by have := h.lt; have := hb.size; omega, fun j => (World.frozen?_of_block (a := ⟨g, j, none⟩) (hb.block _ h.lt)).trans (h.fz j), fun i lo hi hi' => by
    obtain ⟨a, b⟩ := h.at_ i lo hi hi'
    exact ⟨(hb.cell (p := ⟨g, _, none⟩) h.lt).trans a, (hb.cell (p := ⟨g, _, none⟩) h.lt).trans b⟩⟩
theorem SpR.hi (h : SpR g M W) {k : Nat} {lo hi : Int} (hk : M[k]? = some (lo, hi)) (hi' : Int) : SpR g (M.set k (lo, hi')) (W.setCell ⟨g, k * 2 + 1, none⟩ (.int .i64 hi')) := by
  have hkl := (List.getElem?_eq_some_iff.1 hk).1
  have oth : ∀ i v, i ≠ k * 2 + 1 → W.cell? ⟨g, i, none⟩ = some v → (W.setCell ⟨g, k * 2 + 1, none⟩ (.int .i64 hi')).cell? ⟨g, i, none⟩ = some v := fun i v hi hv => by
    rw [World.cell?_setCell_other _ _ _ _ (by first | (simp; done) | (simp; omega) | (simp [hi]))]
    exact hv
  refine ⟨by have := h.lt; simpa using this, fun j => by rw [World.frozen?_setCell]; exact h.fz j, fun j a b hj => ?_⟩
  by_cases ej : j = k
  · subst ej
    rw [List.getElem?_set_self hkl] at hj
    simp only [Option.some.injEq, Prod.mk.injEq] at hj
    obtain ⟨rfl, rfl⟩ := hj
    obtain ⟨a0, a1⟩ := h.at_ j lo hi hk
    exact ⟨oth _ _ (by omega) a0, World.cell?_setCell_same' _ _ _ (by rw [a1]; rfl)⟩
  · rw [List.getElem?_set_ne (by omega)] at hj
    obtain ⟨a0, a1⟩ := h.at_ j a b hj
    exact ⟨oth _ _ (by omega) a0, oth _ _ (by omega) a1⟩
theorem SpR.lo (h : SpR g M W) {k : Nat} {lo hi : Int} (hk : M[k]? = some (lo, hi)) (lo' : Int) : SpR g (M.set k (lo', hi)) (W.setCell ⟨g, k * 2, none⟩ (.int .i64 lo')) := by
  have hkl := (List.getElem?_eq_some_iff.1 hk).1
  have oth : ∀ i v, i ≠ k * 2 → W.cell? ⟨g, i, none⟩ = some v → (W.setCell ⟨g, k * 2, none⟩ (.int .i64 lo')).cell? ⟨g, i, none⟩ = some v := fun i v hi hv => by
    rw [World.cell?_setCell_other _ _ _ _ (by first | (simp; done) | (simp; omega) | (simp [hi]))]
    exact hv
  refine ⟨by have := h.lt; simpa using this, fun j => by rw [World.frozen?_setCell]; exact h.fz j, fun j a b hj => ?_⟩
  by_cases ej : j = k
  · subst ej
    rw [List.getElem?_set_self hkl] at hj
    simp only [Option.some.injEq, Prod.mk.injEq] at hj
    obtain ⟨rfl, rfl⟩ := hj
    obtain ⟨a0, a1⟩ := h.at_ j lo hi hk
    exact ⟨World.cell?_setCell_same' _ _ _ (by rw [a0]; rfl), oth _ _ (by omega) a1⟩
  · rw [List.getElem?_set_ne (by omega)] at hj
    obtain ⟨a0, a1⟩ := h.at_ j a b hj
    exact ⟨oth _ _ (by omega) a0, oth _ _ (by omega) a1⟩
theorem SpR.both (h : SpR g M W) {k : Nat} {lo hi : Int} (hk : M[k]? = some (lo, hi)) (lo' hi' : Int) : SpR g (M.set k (lo', hi')) ((W.setCell ⟨g, k * 2, none⟩ (.int .i64 lo')).setCell ⟨g, k * 2 + 1, none⟩ (.int .i64 hi')) := by
  have hkl := (List.getElem?_eq_some_iff.1 hk).1
  have := (h.lo hk lo').hi (k := k) (lo := lo') (hi := hi) (List.getElem?_set_self hkl) hi'
  rwa [List.set_set] at this
end

/-- What sorting does. -/
def SortsSpans : Prop := ∀ (base g n cap : Nat) (l : List S2) (W : World), OwnS base (.slice (some ⟨g, 0, none⟩) n cap) l W → l.length ≤ 1000 → (∀ x ∈ l, x.1 ≤ x.2) →
  Calls Tryz.prog 65 #[.slice (some ⟨g, 0, none⟩) n cap, .func (.func 66) #[] #[]] W fun e w' => e = .returned (.tuple #[]) ∧
    ∃ l', OwnS base (.slice (some ⟨g, 0, none⟩) n cap) l' w' ∧ GrownL [g] W w' ∧ l'.length = l.length ∧ Sorted1 l' ∧ ∀ x, x ∈ l' ↔ x ∈ l

/-- What joined keeps between two spans: the spans that are joined stand first, those to come where they stood. -/
structure JoL (w : World) (g k : Nat) (l P : List S2) (W : World) : Prop where
  ex : ∃ M, SpR g M W ∧ M.length = l.length ∧ M.take P.length = P ∧ M.drop k = l.drop k
  le : P.length ≤ k
  gr : GrownL [g] w W
theorem joinL_len (P : List S2) (x : S2) : (joinL P x).length ≤ P.length + 1 := by
  unfold joinL
  split
  · simp
  · rename_i y hy
    split
    · have : P ≠ [] := fun e => by rw [e] at hy; cases hy
      have := List.length_pos_iff.2 this
      simp <;> omega
    · simp
theorem joined_take {l : List S2} {k : Nat} {x : S2} (h : l[k]? = some x) : (l.take (k + 1)).foldl joinL [] = joinL ((l.take k).foldl joinL []) x := by
  obtain ⟨h1, rfl⟩ := List.getElem?_eq_some_iff.1 h
  rw [List.take_succ_eq_append_getElem h1, List.foldl_append]; rfl
theorem drop_next {M l : List S2} {k : Nat} (h : M.drop k = l.drop k) : M.drop (k + 1) = l.drop (k + 1) := by
  rw [← List.drop_drop, ← List.drop_drop, h]
theorem drop_at {M l : List S2} {k : Nat} (h : M.drop k = l.drop k) : M[k]? = l[k]? := by
  have := congrArg (·[0]?) h
  simpa [List.getElem?_drop] using this
end Go.Proofs.YtcdodfehnkgjdaaGreatDoor

/- Spans are sorted by their first minute: the library's sort, at this program's numbers. -/
namespace Go.Proofs.YtcdodfehnkgjdaaGreatDoor
open Go.Shelf Go.RowKit

def sortIv_ren : Go.Shelf.Ren := ⟨fun | 6 => 65 | 15 => 82 | 14 => 81 | 28 => 100 | 29 => 101 | 20 => 92 | 21 => 93 | 22 => 94 | 23 => 95 | 24 => 96 | 25 => 97 | 26 => 98 | 27 => 99 | 46 => 110 | 47 => 111 | 48 => 112 | 49 => 113 | 50 => 114 | 57 => 119 | n => n, fun | 22 => 23 | 24 => 45 | 25 => 116 | 3 => 3 | 39 => 133 | 0 => 0 | 53 => 151 | 55 => 153 | 4 => 4 | 46 => 144 | 45 => 143 | 50 => 148 | 5 => 5 | 9 => 9 | 66 => 160 | 70 => 164 | 76 => 170 | 77 => 171 | n => n, fun | n => n⟩
theorem sortIv : Go.Proofs.SlLaysF0.n6 Tryz.prog sortIv_ren := {
  mixed := by kernel_rfl
  f6 := ⟨Tryz.f65.name, by decide, Tryz.func65.trans (congrArg some (by kernel_rfl))⟩
  f14 := ⟨Tryz.f81.name, by decide, Tryz.func81.trans (congrArg some (by kernel_rfl))⟩
  f15 := Tryz.func82.trans (congrArg some (by kernel_rfl))
  f20 := ⟨Tryz.f92.name, by decide, Tryz.func92.trans (congrArg some (by kernel_rfl))⟩
  f21 := ⟨Tryz.f93.name, by decide, Tryz.func93.trans (congrArg some (by kernel_rfl))⟩
  f22 := ⟨Tryz.f94.name, by decide, Tryz.func94.trans (congrArg some (by kernel_rfl))⟩
  f23 := ⟨Tryz.f95.name, by decide, Tryz.func95.trans (congrArg some (by kernel_rfl))⟩
  f24 := ⟨Tryz.f96.name, by decide, Tryz.func96.trans (congrArg some (by kernel_rfl))⟩
  f25 := ⟨Tryz.f97.name, by decide, Tryz.func97.trans (congrArg some (by kernel_rfl))⟩
  f26 := ⟨Tryz.f98.name, by decide, Tryz.func98.trans (congrArg some (by kernel_rfl))⟩
  f27 := ⟨Tryz.f99.name, by decide, Tryz.func99.trans (congrArg some (by kernel_rfl))⟩
  f28 := Tryz.func100.trans (congrArg some (by kernel_rfl))
  f29 := Tryz.func101.trans (congrArg some (by kernel_rfl))
  f46 := ⟨Tryz.f110.name, by decide, Tryz.func110.trans (congrArg some (by kernel_rfl))⟩
  f47 := Tryz.func111.trans (congrArg some (by kernel_rfl))
  f48 := Tryz.func112.trans (congrArg some (by kernel_rfl))
  f49 := ⟨Tryz.f113.name, by decide, Tryz.func113.trans (congrArg some (by kernel_rfl))⟩
  f50 := ⟨Tryz.f114.name, by decide, Tryz.func114.trans (congrArg some (by kernel_rfl))⟩
  f57 := ⟨Tryz.f119.name, by decide, Tryz.func119.trans (congrArg some (by kernel_rfl))⟩
  t0 := Tryz.underlying0
  a0 := Tryz.isAgg0
  z0 := Tryz.sizeOf0
  v0 := Tryz.zeroValue0
  t3 := Tryz.underlying3
  a3 := Tryz.isAgg3
  z3 := Tryz.sizeOf3
  v3 := Tryz.zeroValue3
  t4 := Tryz.underlying4
  a4 := Tryz.isAgg4
  z4 := Tryz.sizeOf4
  v4 := Tryz.zeroValue4
  t5 := Tryz.underlying5
  a5 := Tryz.isAgg5
  z5 := Tryz.sizeOf5
  v5 := Tryz.zeroValue5
  t9 := Tryz.underlying9
  a9 := Tryz.isAgg9
  z9 := Tryz.sizeOf9
  v9 := Tryz.zeroValue9
  t22 := Tryz.underlying23
  a22 := Tryz.isAgg23
  z22 := Tryz.sizeOf23
  v22 := Tryz.zeroValue23
  t25 := Tryz.underlying116
  a25 := Tryz.isAgg116
  z25 := Tryz.sizeOf116
  v25 := Tryz.zeroValue116
  t39 := Tryz.underlying133
  a39 := Tryz.isAgg133
  z39 := Tryz.sizeOf133
  v39 := Tryz.zeroValue133
  t45 := Tryz.underlying143
  a45 := Tryz.isAgg143
  z45 := Tryz.sizeOf143
  v45 := Tryz.zeroValue143
  t46 := Tryz.underlying144
  a46 := Tryz.isAgg144
  z46 := Tryz.sizeOf144
  v46 := Tryz.zeroValue144
  t50 := Tryz.underlying148
  a50 := Tryz.isAgg148
  z50 := Tryz.sizeOf148
  v50 := Tryz.zeroValue148
  t53 := Tryz.underlying151
  a53 := Tryz.isAgg151
  z53 := Tryz.sizeOf151
  v53 := Tryz.zeroValue151
  t55 := Tryz.underlying153
  a55 := Tryz.isAgg153
  z55 := Tryz.sizeOf153
  v55 := Tryz.zeroValue153
  t66 := Tryz.underlying160
  a66 := Tryz.isAgg160
  z66 := Tryz.sizeOf160
  v66 := Tryz.zeroValue160
  t70 := Tryz.underlying164
  a70 := Tryz.isAgg164
  z70 := Tryz.sizeOf164
  v70 := Tryz.zeroValue164
  t76 := Tryz.underlying170
  a76 := Tryz.isAgg170
  z76 := Tryz.sizeOf170
  v76 := Tryz.zeroValue170
  t77 := Tryz.underlying171
  a77 := Tryz.isAgg171
  z77 := Tryz.sizeOf171
  v77 := Tryz.zeroValue171 }

theorem sortsSpans : SortsSpans := fun base g n cap l W hO hl hv => by
  obtain rfl := hO.len_eq
  have hcon := AnyQ.slices_SortFunc sortIv 2 Tryz.isAgg45 Tryz.sizeOf45 encS (fun _ => rfl) encS_one cfS swoS 66 #[] g 0 cap l.toArray W enters_joined1 (cmpLaysS g 0 l.toArray.size W) hO.holds (hO.lt g rfl).2 (by simp; omega)
  change Calls Tryz.prog 65 _ _ _ at hcon
  simp only [List.size_toArray] at hcon
  refine hcon.mono ?_
  rintro e w' ⟨rfl, d', m, os, hp, hs, rfl⟩
  obtain ⟨h1, h2, h3⟩ := sorted_of (by simpa using hp) (by simpa using hs) hv
  obtain ⟨o1, o2⟩ := hO.sorted h1 m os
  exact ⟨rfl, d'.toList, by simpa using o1, by simpa using o2, h1, h2, h3⟩
end Go.Proofs.YtcdodfehnkgjdaaGreatDoor

/- Contract of joined: where there is no span; and whole. -/
namespace Go.Proofs.YtcdodfehnkgjdaaGreatDoor
open Go.Shelf Go.RowKit

theorem bitsLen_any (n : Nat) (W : World) (h : n < 1000) : Calls Tryz.prog 82 #[.int .u64 n] W fun e w' => e = .returned (.int .i64 (Lib.bitLen n : Nat)) ∧ W = w' := by
  have hl := Any.bits_Len (SlLaysF0.n15.bits (P := Tryz.prog) (ρ := sortIv_ren) { sortIv with }) n W (by omega) (by omega)
  change Calls Tryz.prog 82 _ _ _ at hl
  refine hl.mono ?_
  rintro e w' ⟨h1, rfl⟩
  exact ⟨h1, rfl⟩
set_option maxHeartbeats 1000000 in
theorem insertion_nil (fv : Value) (w : World) : Calls Tryz.prog 92 #[.slice none 0 0, .int .i64 0, .int .i64 0, fv] w fun e w' => e = .returned (.tuple #[]) ∧ w = w' := by
  go_enter Tryz.func92, Tryz.ntmps92
  go_wp2_with fail
  refine wp_loop_rounds 1 ?_
  rw [rounds_succ]
  go_wp2_with fail
  go_end0
  exact ⟨rfl, rfl⟩
set_option maxHeartbeats 1000000 in
theorem pdq_nil (m : Int) (fv : Value) (w : World) : Calls Tryz.prog 81 #[.slice none 0 0, .int .i64 0, .int .i64 0, .int .i64 m, fv] w fun e w' => e = .returned (.tuple #[]) ∧ w = w' := by
  have I := Lib.hid (insertion_nil fv)
  go_enter Tryz.func81, Tryz.ntmps81
  go_wp2_with fail
  refine wp_loop_rounds 1 ?_
  rw [rounds_succ]
  go_wp2_with (go_at_call 92; refine (I.out _).mono ?_; rintro e w4 ⟨rfl, rfl⟩)
  refine bodyPost_ret (v := .tuple #[]) ?_ rfl ⟨rfl, rfl⟩
  simp [results, Tryz.results81, go_sem]
set_option maxHeartbeats 1000000 in
theorem sort_nil (fv : Value) (w : World) : Calls Tryz.prog 65 #[.slice none 0 0, fv] w fun e w' => e = .returned (.tuple #[]) ∧ w = w' := by
  have I := Lib.hid fun m => pdq_nil m fv
  have L := Lib.hid fun W => bitsLen_any 0 W (by omega)
  go_enter Tryz.func65, Tryz.ntmps65
  go_wp2_with (first | (go_at_call 82; refine (L.out _).mono ?_; rintro e w4 ⟨rfl, rfl⟩) | (go_at_call 81; refine (I.out _ _).mono ?_; rintro e w4 ⟨rfl, rfl⟩))
  go_end0
  exact ⟨rfl, rfl⟩

theorem clear_zero (W : World) (A : Option Addr) (c : Nat) : (Builtin.clear_ #[23] 0 #[.slice A 0 c]).run Tryz.prog W = .ok (.tuple #[]) W := by
  cases A <;> simp [Builtin.clear_, run_underlying Tryz.underlying23]
/-- What joined returns. -/
def JoinPost (_base : Nat) (v : Value) (l : List S2) (w : World) (e : Ending) (w' : World) : Prop :=
  ∃ v' su, e = .returned v' ∧ RS w'.heap.size v' su w' ∧ JoinedOf l su ∧ su.length ≤ l.length ∧ GrownL v.ownBlock.toList w w' ∧ v'.ownBlock = v.ownBlock
set_option maxHeartbeats 1000000 in
set_option maxRecDepth 100000 in
theorem joined_nil (base : Nat) (w : World) : Calls Tryz.prog 30 #[.slice none 0 0] w (JoinPost base (.slice none 0 0) [] w) := by
  have I := Lib.hid fun fv => sort_nil fv
  have hcl := clear_zero w none 0
  go_enter Tryz.func30, Tryz.ntmps30
  go_wp2_with (go_at_call 65; refine (I.out _ _).mono ?_; rintro e w4 ⟨rfl, rfl⟩)
  refine wp_loop_rounds 1 ?_
  rw [rounds_succ]
  go_wp2_with fail
  go_ret
  exact ⟨_, [], rfl, rs_nil _ _, ⟨ApartL.nil, fun _ => rfl⟩, Nat.le_refl _, GrownL.refl _ _, rfl⟩
end Go.Proofs.YtcdodfehnkgjdaaGreatDoor

/- Contract of joined: the walk. -/
namespace Go.Proofs.YtcdodfehnkgjdaaGreatDoor
open Go.RowKit

theorem GrownL.setCells {bs : List Nat} (b : Nat) (hb : b ∈ bs) : ∀ (vs : List Value) (o : Nat) (W : World), GrownL bs W (W.setCells b o vs)
  | [], _, _ => GrownL.refl _ _
  | v :: r, o, W => (GrownL.set W ⟨b, o, none⟩ v hb).trans (GrownL.setCells b hb r (o + 1) _)
theorem clear_spans {W : World} {g k m c : Nat} {M : List S2} (h : SpR g M W) (hm : 0 < m) (hl : k + m = M.length) :
    ∃ W', (Builtin.clear_ #[23] 0 #[.slice (some ⟨g, k * 2, none⟩) m c]).run Tryz.prog W = .ok (.tuple #[]) W' ∧ GrownL [g] W W' ∧ ∀ i v, i < k * 2 → W.cell? ⟨g, i, none⟩ = some v → W'.cell? ⟨g, i, none⟩ = some v := by
  obtain ⟨vs, hvs⟩ : ∃ vs, (Builtin.zeroCells (Value.cells (.agg #[.int .i64 0, .int .i64 0])) m).toList = vs := ⟨_, rfl⟩
  have hlen : vs.length = m * 2 := by rw [← hvs, Array.length_toList, size_zeroCells]; rfl
  have h1 : ∀ v ∈ vs, v.oneCell' = true := by
    rw [← hvs]
    intro v hv
    simp [Builtin.zeroCells] at hv
    obtain ⟨j, hj, rfl⟩ := hv
    have hz : (Value.agg #[.int .i64 0, .int .i64 0]).cells.size = 2 := rfl
    rw [hz]
    have h2 : j % 2 < 2 := Nat.mod_lt _ (by decide)
    generalize j % 2 = q at *
    match q, h2 with
    | 0, _ => rfl
    | 1, _ => rfl
  have hst := run_storeCells_cells (P := Tryz.prog) g (k * 2) vs 0 W (fun j hj => by
    have hk : (k * 2 + 0 + j) / 2 < M.length := by omega
    obtain ⟨⟨lo, hi⟩, hx⟩ : ∃ x, M[(k * 2 + 0 + j) / 2]? = some x := ⟨_, List.getElem?_eq_getElem hk⟩
    obtain ⟨a0, a1⟩ := h.at_ _ lo hi hx
    rcases Nat.mod_two_eq_zero_or_one (k * 2 + 0 + j) with e | e
    · rw [show (k * 2 + 0 + j) = (k * 2 + 0 + j) / 2 * 2 by omega, a0]; rfl
    · rw [show (k * 2 + 0 + j) = (k * 2 + 0 + j) / 2 * 2 + 1 by omega, a1]; rfl) (fun j _ => h.fz _) h1
  refine ⟨W.setCells g (k * 2 + 0) vs, ?_, GrownL.setCells g (by simp) _ _ _, fun i v hi hv => ?_⟩
  · obtain ⟨m', rfl⟩ : ∃ m', m = m' + 1 := ⟨m - 1, by omega⟩
    simp [Builtin.clear_, run_underlying Tryz.underlying23, Tryz.zeroValue45, hvs, hst]
  · rw [World.cell?_setCells_out g vs _ W ⟨g, i, none⟩ (fun _ _ => by left; show i < _; omega)]
    exact hv

theorem drewB (W : World) (n : Nat) : Below W.heap.size W (W.drewN n) := below_drewN (Below.refl _ _) n
/-- A span is written into the row. -/
theorem JoL.put {w wr : World} {g k j : Nat} {l M P : List S2} {o : Obj} {x x' : S2} (hM : SpR g M wr) (hg : GrownL [g] w wr) (hM1 : M.length = l.length) (hd : M.drop (k + 1) = l.drop (k + 1)) (hj : j ≤ k) (hx : M[j]? = some x) (hP : (M.set j x').take P.length = P) (hle : P.length ≤ k + 1) (n : Nat) :
    JoL w g (k + 1) l P ((((wr.alloc o).drewN n).setCell ⟨g, j * 2, none⟩ (.int .i64 x'.1)).setCell ⟨g, j * 2 + 1, none⟩ (.int .i64 x'.2)) := by
  have hb : Below wr.heap.size wr ((wr.alloc o).drewN n) := ((Below.refl _ _).alloc (Nat.le_refl _) o).trans ((drewB _ n).mono (by simp))
  refine ⟨⟨_, (hM.below hb).both hx x'.1 x'.2, by rw [List.length_set, hM1], hP, by rw [List.drop_set_of_lt (by omega), hd]⟩, hle, ((hg.trans (GrownL.of_below hb)).trans (GrownL.set _ _ _ (by simp))).trans (GrownL.set _ _ _ (by simp))⟩
theorem JoL.putHi {w wr : World} {g k j : Nat} {l M P : List S2} {o : Obj} {lo hi hi' : Int} (hM : SpR g M wr) (hg : GrownL [g] w wr) (hM1 : M.length = l.length) (hd : M.drop (k + 1) = l.drop (k + 1)) (hj : j ≤ k) (hx : M[j]? = some (lo, hi)) (hP : (M.set j (lo, hi')).take P.length = P) (hle : P.length ≤ k + 1) (n : Nat) :
    JoL w g (k + 1) l P (((wr.alloc o).drewN n).setCell ⟨g, j * 2 + 1, none⟩ (.int .i64 hi')) := by
  have hb : Below wr.heap.size wr ((wr.alloc o).drewN n) := ((Below.refl _ _).alloc (Nat.le_refl _) o).trans ((drewB _ n).mono (by simp))
  exact ⟨⟨_, (hM.below hb).hi hx hi', by rw [List.length_set, hM1], hP, by rw [List.drop_set_of_lt (by omega), hd]⟩, hle, (hg.trans (GrownL.of_below hb)).trans (GrownL.set _ _ _ (by simp))⟩
theorem take_last {M i : List S2} {y : S2} (h : M.take (i ++ [y]).length = i ++ [y]) : M[i.length]? = some y ∧ M.take i.length = i := by
  constructor
  · have := congrArg (·[i.length]?) h
    rw [List.length_append, List.length_singleton] at this
    simpa [List.getElem?_take] using this
  · have := congrArg (List.take i.length) h
    rw [List.take_take] at this
    simpa using this
theorem take_set_last {M i : List S2} {y : S2} (h : M.take i.length = i) (hl : i.length < M.length) : (M.set i.length y).take (i ++ [y]).length = i ++ [y] := by
  rw [List.length_append, List.length_singleton, List.take_succ_eq_append_getElem (by simpa using hl), List.getElem_set_self, List.take_set_of_le (Nat.le_refl _), h]

theorem Sorted1.take {l : List S2} (h : Sorted1 l) (k : Nat) : Sorted1 (l.take k) :=
  ⟨fun x hx => h.1 x (List.mem_of_mem_take hx), fun i j a b hi hj hij => h.2 i j a b (by rw [List.getElem?_take] at hi; split at hi; exact hi; cases hi) (by rw [List.getElem?_take] at hj; split at hj; exact hj; cases hj) hij⟩
theorem joined_bound {l i : List S2} {k : Nat} {y1 y2 : Int} (hs : Sorted1 l) (hv : ∀ x ∈ l, SOk x.1 x.2) (h : (l.take k).foldl joinL [] = i ++ [(y1, y2)]) : 0 ≤ y2 ∧ y2 ≤ 1048576 := by
  obtain ⟨h1, h2, -⟩ := joined_is _ (l.take k) rfl (hs.take k)
  have hy : y1 ≤ y2 := by
    rw [h] at h1
    exact (h1 i.length (y1, y2) (by simp)).1
  have hin := h2 y2
  rw [h, inS_app, inS_one] at hin
  have : inS (l.take k) y2 = true := by
    rw [← hin]
    simp [hy]
  obtain ⟨x, hx, a, b⟩ := (inS_iff _ _).1 this
  obtain ⟨c1, c2, c3⟩ := hv x (List.mem_of_mem_take hx)
  omega
theorem SpR.rs {g n cap : Nat} {M su : List S2} {W W' : World} (h : SpR g M W) (hM : M.take n = su) (hn : su.length = n) (hl : n ≤ 200) (hk : ∀ i v, i < n * 2 → W.cell? ⟨g, i, none⟩ = some v → W'.cell? ⟨g, i, none⟩ = some v) (hs : W.heap.size ≤ W'.heap.size) : RS W'.heap.size (.slice (some ⟨g, 0, none⟩) n cap) su W' := by
  refine ⟨_, cap, by rw [hn], by omega, fun _ => ⟨g, 0, rfl, by have := h.lt; omega, fun k lo hi hk' => ?_⟩⟩
  have hkl := (List.getElem?_eq_some_iff.1 hk').1
  have : M[k]? = some (lo, hi) := by
    rw [← hM, List.getElem?_take] at hk'
    split at hk'
    · exact hk'
    · cases hk'
  obtain ⟨a, b⟩ := h.at_ k lo hi this
  rw [Nat.zero_add]
  exact ⟨hk _ _ (by omega) a, hk _ _ (by omega) b⟩

set_option maxHeartbeats 16000000 in
set_option maxRecDepth 1000000 in
theorem joined_some (base g cap : Nat) (l : List S2) (w : World) (h : OwnS base (.slice (some ⟨g, 0, none⟩) l.length cap) l w) (hv : SpOk l) (hlen : l.length ≤ 200) :
    Calls Tryz.prog 30 #[.slice (some ⟨g, 0, none⟩) l.length cap] w (JoinPost base (.slice (some ⟨g, 0, none⟩) l.length cap) l w) := by
  have HS := Lib.hid (sortsSpans base g l.length cap l w h (by omega) (fun x hx => (hv x hx).2.1))
  have HV := Lib.hid hv
  have hcap : l.length ≤ cap ∧ cap ≤ maxLen := by
    rcases h.2 with ⟨e, _⟩ | ⟨g', cap', cur, e, _, _, h2, h3, _⟩
    · cases e
    · simp only [Value.slice.injEq] at e
      obtain ⟨-, -, rfl⟩ := e
      exact ⟨h2, h3⟩
  obtain ⟨hc1, hc2⟩ := hcap
  clear h hv
  go_enter Tryz.func30, Tryz.ntmps30
  go_wp2_with (go_at_call 65; refine HS.out.mono ?_; rintro e w1 ⟨rfl, l', ho, hg, hl', hs, hm⟩)
  obtain ⟨hj1, hj2, -⟩ := joined_is l'.length l' rfl hs
  have HJ : Hid (JoinedOf l (l'.foldl joinL [])) := Lib.hid ⟨hj1, fun m => (hj2 m).trans (inS_mem hm m)⟩
  have HVL : Hid (∀ x ∈ l', SOk x.1 x.2) := Lib.hid fun x hx => HV.out x ((hm x).1 hx)
  have HSO := Lib.hid hs
  have J0 : Hid (JoL w g 0 l' ((l'.take 0).foldl joinL []) w1) := Lib.hid ⟨⟨l', ho.spr, rfl, rfl, rfl⟩, Nat.le_refl _, hg⟩
  obtain ⟨N, hN⟩ : ∃ N, l.length = N := ⟨_, rfl⟩
  have HL : Hid (l'.length = N) := Lib.hid (hl'.trans hN)
  have HLN := Lib.hid hN
  rw [hN] at hlen hc1 ⊢
  clear ho hg hl' hs hm hj1 hj2 HS HV hN
  go_wp2_with fail
  go_loopw [3, 10] (fun o u wr => ∃ k : Nat, u = .int .i64 k ∧ k ≤ N ∧ o = .int .i64 (((l'.take k).foldl joinL []).length : Int) ∧ JoL w g k l' ((l'.take k).foldl joinL []) wr) (fun _ u _ => N - (intOf u).toNat)
  case atStart => exact ⟨0, rfl, by omega, rfl, J0.out⟩
  case round =>
    obtain ⟨k, rfl, hk, rfl, hS⟩ := hrel
    have S := Lib.hid hS
    clear hS J0
    by_cases hkN : k < N
    · have hk0 : (k : Int) < (N : Int) := by omega
      obtain ⟨⟨p, q⟩, ht⟩ : ∃ t, l'[k]? = some t := ⟨_, List.getElem?_eq_getElem (by rw [HL.out]; exact hkN)⟩
      have HP : Hid ((l'.take (k + 1)).foldl joinL [] = joinL ((l'.take k).foldl joinL []) (p, q)) := Lib.hid (joined_take ht)
      obtain ⟨v1, v2, v3⟩ := HVL.out _ (List.mem_of_getElem? ht)
      simp only at v1 v2 v3
      obtain ⟨M, hM, hM1, hM2, hM3⟩ := S.out.ex
      have hMk : M[k]? = some (p, q) := (drop_at hM3).trans ht
      obtain ⟨d0, d1⟩ := hM.at_ k p q hMk
      have hb : Below wr.heap.size wr (wr.alloc (.cells #[.int .i64 p, .int .i64 q] 45)) := (Below.refl _ _).alloc (Nat.le_refl _) _
      have hM' := hM.below hb
      have HG0 := Lib.hid S.out.gr
      have hle := S.out.le
      have hd := drop_next hM3
      obtain ⟨P, hPe⟩ : ∃ P, (l'.take k).foldl joinL [] = P := ⟨_, rfl⟩
      rw [hPe] at HP hM2 hle ⊢
      have HPE := Lib.hid hPe
      clear ht hMk hPe S hM3 hb
      have HM := Lib.hid hM'
      rcases list_cases P with rfl | ⟨i, ⟨y1, y2⟩, rfl⟩
      · obtain ⟨⟨a, b⟩, hx⟩ : ∃ x, M[0]? = some x := ⟨_, List.getElem?_eq_getElem (by rw [hM1, HL.out]; omega)⟩
        obtain ⟨e0, e1⟩ := hM'.at_ 0 a b hx
        have z0 := hM'.fz 0
        have z1 := hM'.fz 1
        simp only [Nat.zero_mul, Nat.zero_add] at e0 e1
        have HR := Lib.hid fun n => JoL.put (w := w) (k := k) (P := [(p, q)]) (o := .cells #[.int .i64 p, .int .i64 q] 45) (x' := (p, q)) hM HG0.out hM1 hd (Nat.zero_le _) hx (take_set_last (i := []) rfl (by rw [hM1, HL.out]; simp; omega)) (by simp) n
        simp only [Nat.zero_mul, Nat.zero_add] at HR
        have hlen1 : Hid ((((l'.take (k + 1)).foldl joinL []).length : Int) = 1) := Lib.hid (by rw [HP.out, joinL_nil]; rfl)
        have HP1 : Hid ((l'.take (k + 1)).foldl joinL [] = [(p, q)]) := Lib.hid (by rw [HP.out, joinL_nil])
        clear hM hM' hM1 hM2 hd hx HM HG0 HP
        go_wp2_with fail
        go_quiet (fail)
        go_wp2_with fail
        go_roundw
        case rel => exact ⟨k + 1, by go_num, by omega, by rw [hlen1.out], by rw [HP1.out]; exact HR.out _⟩
        case measure => show N - ((k : Int) + 1).toNat < N - (k : Int).toNat; omega
      · obtain ⟨hy, hi'⟩ := take_last hM2
        obtain ⟨j, hj⟩ : ∃ j, i.length = j := ⟨_, rfl⟩
        have HJ2 := Lib.hid hj
        rw [show ((i ++ [(y1, y2)]).length : Int) = (j : Int) + 1 by rw [List.length_append, hj]; simp]
        have hjk : j + 1 ≤ k := by rw [List.length_append, hj] at hle; simpa using hle
        rw [hj] at hy hi'
        obtain ⟨e0, e1⟩ := hM'.at_ j y1 y2 hy
        have z1 := hM'.fz (j * 2 + 1)
        have W1 : IntKind.i64.wrap ((j : Int) + 1 - 1) = (j : Int) := by rw [show (j : Int) + 1 - 1 = j by omega]; exact IntWalk.i64_in _ (by omega)
        have hjM : j + 1 < M.length := by rw [hM1, HL.out]; omega
        have hjN : (j : Int) < (N : Int) := by omega
        have hy2 : 0 ≤ y2 ∧ y2 ≤ 1048576 := joined_bound HSO.out HVL.out HPE.out
        have W2 : IntKind.i64.wrap (y2 + 1) = y2 + 1 := IntWalk.i64_in _ (by omega)
        have hpos : (0 : Int) < (j : Int) + 1 := by omega
        by_cases c1 : p ≤ y2 + 1
        · have HP1 : Hid ((l'.take (k + 1)).foldl joinL [] = i ++ [(y1, max y2 q)]) := Lib.hid (by rw [HP.out, joinL_snoc, if_pos c1])
          have HR := Lib.hid fun n h' (e : h' = max y2 q) => JoL.putHi (w := w) (k := k) (P := i ++ [(y1, h')]) (o := .cells #[.int .i64 p, .int .i64 q] 45) (hi' := h') hM HG0.out hM1 hd (by omega : j ≤ k) hy (by have := take_set_last (y := (y1, h')) (by rw [hj]; exact hi') (by rw [hj]; omega : i.length < M.length); rwa [hj] at this) (by rw [List.length_append, hj]; simp; omega) n
          have hlen1 : Hid ((((l'.take (k + 1)).foldl joinL []).length : Int) = (j : Int) + 1) := Lib.hid (by rw [HP1.out, List.length_append, HJ2.out]; simp)
          clear hM hM' hM1 hM2 hd HM HG0 HP hy hi' hj
          by_cases c2 : y2 < q
          · go_wp2_with fail
            go_quiet (fail)
            go_wp2_with fail
            go_region
            all_goals go_wp2_with fail
            all_goals go_roundw
            case rel => exact ⟨k + 1, by go_num, by omega, by rw [hlen1.out], by rw [HP1.out, show max y2 q = q by omega]; exact HR.out _ _ (by omega)⟩
            case measure => show N - ((k : Int) + 1).toNat < N - (k : Int).toNat; omega
          · go_wp2_with fail
            go_quiet (fail)
            go_wp2_with fail
            go_region
            all_goals go_wp2_with fail
            all_goals go_roundw
            case rel => exact ⟨k + 1, by go_num, by omega, by rw [hlen1.out], by rw [HP1.out, show max y2 q = y2 by omega]; exact HR.out _ _ (by omega)⟩
            case measure => show N - ((k : Int) + 1).toNat < N - (k : Int).toNat; omega
        · obtain ⟨⟨a, b⟩, hx⟩ : ∃ x, M[j + 1]? = some x := ⟨_, List.getElem?_eq_getElem hjM⟩
          obtain ⟨b0, b1⟩ := hM'.at_ (j + 1) a b hx
          have z2 := hM'.fz ((j + 1) * 2)
          have z3 := hM'.fz ((j + 1) * 2 + 1)
          have W3 : IntKind.i64.wrap ((j : Int) + 1 + 1) = (j : Int) + 1 + 1 := IntWalk.i64_in _ (by omega)
          have hjN2 : (j : Int) + 1 < (N : Int) := by omega
          have HP1 : Hid ((l'.take (k + 1)).foldl joinL [] = i ++ [(y1, y2)] ++ [(p, q)]) := Lib.hid (by rw [HP.out, joinL_snoc, if_neg c1])
          have HR := Lib.hid fun n => JoL.put (w := w) (k := k) (j := j + 1) (P := i ++ [(y1, y2)] ++ [(p, q)]) (o := .cells #[.int .i64 p, .int .i64 q] 45) (x' := (p, q)) hM HG0.out hM1 hd hjk hx (by
            have := take_set_last (M := M) (i := i ++ [(y1, y2)]) (y := (p, q)) hM2 (by rw [List.length_append, hj]; simpa using hjM)
            rwa [show (i ++ [(y1, y2)]).length = j + 1 by rw [List.length_append, hj]; rfl] at this) (by rw [List.length_append, List.length_append, hj]; simp; omega) n
          have hlen1 : Hid ((((l'.take (k + 1)).foldl joinL []).length : Int) = (j : Int) + 1 + 1) := Lib.hid (by rw [HP1.out, List.length_append, List.length_append, HJ2.out]; simp)
          clear hM hM' hM1 hM2 hd HM HG0 HP hy hi' hj hx
          go_wp2_with fail
          go_quiet (fail)
          go_wp2_with fail
          go_roundw
          case rel => exact ⟨k + 1, by go_num, by omega, by rw [hlen1.out], by rw [HP1.out]; exact HR.out _⟩
          case measure => show N - ((k : Int) + 1).toNat < N - (k : Int).toNat; omega
    · have hkN' : k = N := by omega
      have hE : Hid ((l'.take k).foldl joinL [] = l'.foldl joinL []) := Lib.hid (by rw [List.take_of_length_le (by rw [HL.out]; omega)])
      rw [hE.out] at S ⊢
      subst hkN'
      obtain ⟨M, hM, hM1, hM2, -⟩ := S.out.ex
      obtain ⟨su, hsu⟩ : ∃ su, l'.foldl joinL [] = su := ⟨_, rfl⟩
      rw [hsu] at S HJ hM2 ⊢
      obtain ⟨n, hn⟩ : ∃ n, su.length = n := ⟨_, rfl⟩
      have HN := Lib.hid hn
      have hnk : n ≤ k := by rw [← hn]; exact S.out.le
      rw [hn] at hM2 ⊢
      have hk0 : (k : Int) ≤ (k : Int) := Int.le_refl _
      have HM2 := Lib.hid hM2
      have HM1 := Lib.hid hM1
      have HMM := Lib.hid hM
      clear hsu hn hM2 hM1 hM
      have hle : su.length ≤ l.length := by rw [HN.out, HLN.out]; exact hnk
      by_cases hnk2 : n = k
      · subst hnk2
        have hcl := clear_zero wr
        have HR := Lib.hid (HMM.out.rs (cap := cap) (W' := wr) HM2.out HN.out hlen (fun _ _ _ h => h) (Nat.le_refl _))
        by_cases hcn : cap = n
        · subst hcn
          go_wp2_with fail
          go_ret
          exact ⟨_, su, rfl, HR.out, HJ.out, hle, by simpa [Value.ownBlock] using S.out.gr, rfl⟩
        · go_wp2_with fail
          go_ret
          exact ⟨_, su, rfl, HR.out, HJ.out, hle, by simpa [Value.ownBlock] using S.out.gr, rfl⟩
      · obtain ⟨W', hrun, hg', hcells⟩ := clear_spans (c := cap - n) HMM.out (show 0 < k - n by omega) (show n + (k - n) = M.length by rw [HM1.out, HL.out]; omega)
        have HR := Lib.hid (HMM.out.rs (cap := cap) (W' := W') HM2.out HN.out (by omega) hcells hg'.size)
        have HGG := Lib.hid (S.out.gr.trans hg')
        have hcn : ¬ cap = n := by omega
        have hnk3 : (n : Int) ≤ (k : Int) := by omega
        clear hg' hcells
        go_wp2_with fail
        go_ret
        exact ⟨_, su, rfl, HR.out, HJ.out, hle, by simpa [Value.ownBlock] using HGG.out, rfl⟩
end Go.Proofs.YtcdodfehnkgjdaaGreatDoor

/- Contract of Union: its blocks; joined whole. -/
namespace Go.Proofs.YtcdodfehnkgjdaaGreatDoor
open Go.RowKit

theorem joined_any (base : Nat) (v : Value) (l : List S2) (w : World) (h : OwnS base v l w) (hv : SpOk l) (hlen : l.length ≤ 200) :
    Calls Tryz.prog 30 #[v] w (JoinPost base v l w) := by
  rcases h.2 with ⟨rfl, h0⟩ | ⟨g, cap, cur, rfl, _⟩
  · obtain rfl := List.eq_nil_of_length_eq_zero h0
    exact joined_nil base w
  · exact joined_some base g cap l w h hv hlen

/-- Two sets in their blocks, the result in the next. -/
def UcX (w : World) (v0 v1 u0 u1 : Value) (W : World) : Prop :=
  N2d w v0 v1 u0 u1 W ∧ W.heap[w.heap.size + 2]? = some (.cells #[.slice none 0 0, .slice none 0 0] 25 (0, 0)) ∧ w.heap.size + 3 ≤ W.heap.size
section
variable {w W W' : World} {v0 v1 u0 u1 : Value} {bs : List Nat}
theorem UcX.below (h : UcX w v0 v1 u0 u1 W) (hb : Below W.heap.size W W') : UcX w v0 v1 u0 u1 W' := ⟨h.1.below hb, (hb.block _ (by have := h.2.2; omega)).trans h.2.1, Nat.le_trans h.2.2 hb.size⟩
theorem UcX.grown (h : UcX w v0 v1 u0 u1 W) (hg : GrownL bs W W') (hn : ∀ b ∈ bs, w.heap.size + 3 ≤ b) : UcX w v0 v1 u0 u1 W' :=
  ⟨h.1.grownL hg (fun b hb => by have := hn b hb; omega), (hg.block _ (by have := h.2.2; omega) (fun hm => by have := hn _ hm; omega)).trans h.2.1, Nat.le_trans h.2.2 hg.size⟩
theorem UcX.new (w : World) (v0 v1 u0 u1 : Value) : UcX w v0 v1 u0 u1 (((w.alloc (.cells #[v0, v1] 25)).alloc (.cells #[u0, u1] 25)).alloc (.cells #[.slice none 0 0, .slice none 0 0] 25)) := by
  refine ⟨(N2d.new _ _).alloc _, ?_, by simp⟩
  have := World.alloc_heap_new ((w.alloc (.cells #[v0, v1] 25)).alloc (.cells #[u0, u1] 25)) (.cells #[.slice none 0 0, .slice none 0 0] 25)
  simpa using this
theorem UcX.res (h : UcX w v0 v1 u0 u1 W) : W.cell? ⟨w.heap.size + 2, 0, none⟩ = some (.slice none 0 0) ∧ W.cell? ⟨w.heap.size + 2, 1, none⟩ = some (.slice none 0 0) ∧ W.frozen? ⟨w.heap.size + 2, 0, none⟩ = false ∧ W.frozen? ⟨w.heap.size + 2, 1, none⟩ = false :=
  ⟨by simp [World.cell?, h.2.1], by simp [World.cell?, h.2.1], by simp [World.frozen?, h.2.1], by simp [World.frozen?, h.2.1]⟩
theorem UcX.setres (h : UcX w v0 v1 u0 u1 W) (x y : Value) : ((W.setCell ⟨w.heap.size + 2, 0, none⟩ x).setCell ⟨w.heap.size + 2, 1, none⟩ y).cell? ⟨w.heap.size + 2, 0, none⟩ = some x ∧ ((W.setCell ⟨w.heap.size + 2, 0, none⟩ x).setCell ⟨w.heap.size + 2, 1, none⟩ y).cell? ⟨w.heap.size + 2, 1, none⟩ = some y := by
  obtain ⟨r0, r1, _, _⟩ := h.res
  have t : Two (w.heap.size + 2) (.slice none 0 0) (.slice none 0 0) W := ⟨r0, r1, by have := h.2.2; omega⟩
  have t' := t.set x y
  exact ⟨t'.1, t'.2.1⟩
theorem UcX.bel (h : UcX w v0 v1 u0 u1 W) : Below w.heap.size w W := h.1.bel
theorem UcX.setbel (h : UcX w v0 v1 u0 u1 W) (x y : Value) : Below w.heap.size w ((W.setCell ⟨w.heap.size + 2, 0, none⟩ x).setCell ⟨w.heap.size + 2, 1, none⟩ y) :=
  (h.bel.setCell (p := ⟨w.heap.size + 2, 0, none⟩) (by simp) _).setCell (p := ⟨w.heap.size + 2, 1, none⟩) (by simp) _
end
def UnionPost (ta : List T3) (sa : List S2) (tb : List T3) (sb : List S2) (ca cb : Int) (w : World) (e : Ending) (w' : World) : Prop :=
  ∃ v u tu su d, e = .returned (.tuple #[.agg #[v, u], .int .i64 d]) ∧ RT w'.heap.size v tu w' ∧ RS w'.heap.size u su w' ∧ Below w.heap.size w w' ∧ UnionIs ta sa tb sb ca cb tu su d

set_option maxHeartbeats 8000000 in
set_option maxRecDepth 1000000 in
theorem union_err (A A' B B' : Option Addr) (m ca m' ca' k cb k' cb' : Nat) (ta tb : List T3) (sa sb : List S2) (c d : Int) (w : World) (h : RM w.heap.size (.agg #[.slice A m ca, .slice A' m' ca']) ta sa w) (h' : RM w.heap.size (.agg #[.slice B k cb, .slice B' k' cb']) tb sb w) (hc : CheckIs ta sa c) (hc' : CheckIs tb sb d) (h0 : c ≠ 0 ∨ d ≠ 0) :
    Calls Tryz.prog 6 #[.agg #[.slice A m ca, .slice A' m' ca'], .agg #[.slice B k cb, .slice B' k' cb']] w (UnionPost ta sa tb sb c d w) := by
  obtain ⟨x, hx⟩ := BothIs.exists_ c d
  have C := Lib.hid fun W (S : N2d w (.slice A m ca) (.slice A' m' ca') (.slice B k cb) (.slice B' k' cb') W) => checkBoth_any _ _ ta tb sa sb c d x W (h.up S.siz S.bel) (h'.up S.siz S.bel) hc hc' hx
  have S0 := Lib.hid (UcX.new w (.slice A m ca) (.slice A' m' ca') (.slice B k cb) (.slice B' k' cb'))
  have HP : Hid (UnionIs ta sa tb sb c d [] [] x) := Lib.hid (by
    rcases hx with ⟨a, rfl⟩ | ⟨a, rfl⟩
    · exact .inl ⟨a, rfl, rfl, rfl⟩
    · exact .inr (.inl ⟨a, by rcases h0 with h0 | h0; exact absurd a h0; exact h0, rfl, rfl, rfl⟩))
  have hb0 : (x != 0) = true := by
    rw [bne_iff_ne]
    rcases hx with ⟨a, rfl⟩ | ⟨a, rfl⟩
    · exact a
    · rcases h0 with h0 | h0
      · exact absurd a h0
      · exact h0
  clear h h' hc hc' h0 hx
  go_enter Tryz.func6, Tryz.ntmps6
  go_wp2_with fail
  refine (C.out _ S0.out.1).mono ?_
  rintro e w1 ⟨rfl, h1⟩
  have S := Lib.hid (S0.out.below h1)
  clear h1 S0
  obtain ⟨x0, x1, f0, f1⟩ := S.out.res
  go_wp2_with fail
  refine bodyPost_ret (v := .tuple #[.agg #[.slice none 0 0, .slice none 0 0], .int .i64 x]) ?_ rfl ?_
  · have q := S.out.setres (.slice none 0 0) (.slice none 0 0)
    simp [results, Tryz.results6, go_sem, q.1, q.2]
  · exact ⟨_, _, [], [], x, rfl, rt_nil _ _, rs_nil _ _, S.out.setbel _ _, HP.out⟩
end Go.Proofs.YtcdodfehnkgjdaaGreatDoor
