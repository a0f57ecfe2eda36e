/- Contracts of strings.Builder's copyCheck and WriteString in this program. -/
import Derived.Test.YtcdodfehnkgjdaaGreatDoorA4
import Derived.Lib.OthersKept
import Derived.Lib.Builder
import Derived.Shelf.Strings.BuilderK
import Derived.Test.YtcdodfehnkgjdaaGreatDoorS1
import Derived.Test.YtcdodfehnkgjdaaGreatDoorC4
import Derived.Lib.ItoaLen
import Derived.RangeFuncRecord
namespace Go.Proofs.YtcdodfehnkgjdaaGreatDoor
open Go.RowKit

theorem sizeBuilder : (Tryz.prog.info? 99).map (fun i => i.size) = some 2 := by kernel_rfl
theorem liesBuilder : liesAt Tryz.prog Tryz.prog.depth 99 (2 / Tryz.prog.cellsOf 99) 0 99 1 = true := by kernel_rfl
theorem infoByte : (Tryz.prog.info? 5).map (fun i => (i.zero, i.size, i.bytes)) = some (some (.int .u8 0), 1, 1) := by kernel_rfl

set_option maxHeartbeats 1000000 in
set_option maxRecDepth 100000 in
theorem copyCheck_used (b : Nat) (w : World) (h0 : w.cell? ⟨b, 0, none⟩ = some (.pointer (some ⟨b, 0, none⟩))) :
    Calls Tryz.prog 77 #[.pointer (some ⟨b, 0, none⟩)] w fun e w' => e = .returned (.tuple #[]) ∧ w' = w := by
  obtain ⟨j, hj, _⟩ := Option.map_eq_some_iff.1 sizeBuilder
  go_enter Tryz.func77, Tryz.ntmps77
  go_wp2
  rw [Lib.run_neq_ptr_same w _ Tryz.underlying96 hj]
  go_wp2
  go_end0
  exact ⟨rfl, rfl⟩

set_option maxHeartbeats 1000000 in
set_option maxRecDepth 100000 in
theorem copyCheck_fresh (b : Nat) (w : World) (h0 : w.cell? ⟨b, 0, none⟩ = some (.pointer none)) (hsh : w.shape? b = some (99, 2)) (hfz : w.frozen? ⟨b, 0, none⟩ = false) :
    Calls Tryz.prog 77 #[.pointer (some ⟨b, 0, none⟩)] w fun e w' => e = .returned (.tuple #[]) ∧ w' = w.setCell ⟨b, 0, none⟩ (.pointer (some ⟨b, 0, none⟩)) := by
  obtain ⟨j, hj, hjs⟩ := Option.map_eq_some_iff.1 sizeBuilder
  go_enter Tryz.func77, Tryz.ntmps77
  go_wp2
  rw [Lib.run_to_unsafe w ⟨b, 0, none⟩ Tryz.underlying96 Tryz.underlying139 hj (by rw [hjs]; decide) hsh (Nat.zero_lt_succ 1)]
  simp only [Result.andThen]
  rw [Oper.upon_value]
  go_wp2
  rw [run_callFunc_extern Tryz.func87 (by kernel_rfl) (by kernel_rfl) (by kernel_rfl) (e := Extern.AbiNoEscape.same) (by kernel_rfl)]
  rw [Lib.run_noEscape]
  simp only [Result.andThen]
  rw [Oper.upon_value]
  go_wp2
  rw [Lib.run_from_unsafe w ⟨b, 0, none⟩ Tryz.underlying139 Tryz.underlying96 hj hsh liesBuilder]
  simp only [Result.andThen]
  rw [Oper.upon_value]
  go_wp2
  go_end0
  exact ⟨rfl, rfl⟩

theorem copyCheck_any (B b : Nat) (bs : List Value) (w : World) (h : Lib.IsBuilderF 99 5 B b bs w) :
    Calls Tryz.prog 77 #[.pointer (some ⟨b, 0, none⟩)] w fun e w' => e = .returned (.tuple #[]) ∧ (Lib.BuilderAtF 99 5 B b (.pointer (some ⟨b, 0, none⟩)) bs w' ∧ Below B w w' ∧ Lib.OthersKept 5 (some b) w w') := by
  rcases h with h | h
  · refine (copyCheck_fresh b w h.cell0 h.shape h.frozen0).mono ?_
    rintro e w' ⟨rfl, rfl⟩
    exact ⟨rfl, h.used _, (Below.refl B w).setCell (p := ⟨b, 0, none⟩) h.1 _, (Lib.OthersKept.refl _ _ w).setCell ⟨b, 0, none⟩ rfl _⟩
  · refine (copyCheck_used b w h.cell0).mono ?_
    rintro e w' ⟨rfl, rfl⟩
    exact ⟨rfl, h, Below.refl B _, Lib.OthersKept.refl _ _ _⟩

set_option maxHeartbeats 2000000 in
set_option maxRecDepth 100000 in
theorem writeString_any (B b : Nat) (bs : List Value) (s : ByteArray) (w : World) (h : Lib.IsBuilderF 99 5 B b bs w) (hlen : bs.length + s.size ≤ 140737488355328) (hBw : B ≤ w.heap.size) :
    Calls Tryz.prog 58 #[.pointer (some ⟨b, 0, none⟩), .string s] w fun e w' => e = .returned (.tuple #[.int .i64 s.size, .nilIface]) ∧ (Lib.BuilderAtF 99 5 B b (.pointer (some ⟨b, 0, none⟩)) (bs ++ Lib.strCells s) w' ∧ Below B w w' ∧ Lib.OthersKept 5 (some b) w w') := by
  obtain ⟨i0, hi, hz0, hz1, hz2⟩ := info_parts infoByte
  go_enter Tryz.func58, Tryz.ntmps58
  go_wp2_with (go_at_call 77; refine (copyCheck_any B b bs _ h).mono ?_)
  rintro e w1 ⟨rfl, h1, hb1, hk1⟩
  obtain ⟨hB, v, hbk, hown, hne⟩ := h1
  have c0 : w1.cell? ⟨b, 0, none⟩ = some (.pointer (some ⟨b, 0, none⟩)) := by rw [Lib.cell_of_heap hbk]; rfl
  have c1 : w1.cell? ⟨b, 1, none⟩ = some v := by rw [Lib.cell_of_heap hbk]; rfl
  go_wp2_with (at_builtin; refine Lib.wpList_append_own_stringF _ rfl _ _ 97 9 rfl B 5 i0 Tryz.underlying97 Tryz.underlying9 hi hz0 hz1 hz2 _ _ _ rfl hown s rfl ?c3 ?c4 ?c5 ?_)
  case c3 => unfold maxLen; omega
  case c4 => omega
  case c5 => have := hb1.size; omega
  intro v' w2 hown' hgrow _
  have hlt : b < w1.heap.size := by
    rcases Nat.lt_or_ge b w1.heap.size with h' | h'
    · exact h'
    · simp [Array.getElem?_eq_none h'] at hbk
  have hb2 : w2.heap[b]? = some (.cells #[.pointer (some ⟨b, 0, none⟩), v] 99 (0, 0)) := by
    rw [hgrow.block b hlt (fun e => hne e.symm)]
    exact hbk
  have d0 : w2.cell? ⟨b, 0, none⟩ = some (.pointer (some ⟨b, 0, none⟩)) := by rw [Lib.cell_of_heap hb2]; rfl
  have d1 : w2.cell? ⟨b, 1, none⟩ = some v := by rw [Lib.cell_of_heap hb2]; rfl
  have f1 : w2.frozen? ⟨b, 1, none⟩ = false := Lib.frozen_of_heap hb2 1
  obtain ⟨ao, n', cap, rfl⟩ : ∃ ao n' cap, v' = .slice ao n' cap := by
    rcases hown'.2 with ⟨hv, _⟩ | ⟨g, cap, cur, fz, hv, _⟩
    · exact ⟨_, _, _, hv⟩
    · exact ⟨_, _, _, hv⟩
  go_wp2
  go_ret2
  refine ⟨rfl, ?_, ?_, (hk1.grown hgrow (Lib.ownsRowF_kind hown)).setCell ⟨b, 1, none⟩ rfl _⟩
  · exact Lib.BuilderAtF.put (T := 99) (e := 5) hB hb2 (bs' := bs ++ Lib.strCells s) (by simpa [Lib.strCells_length] using hown') (by decide)
  · exact (hb1.grown hgrow (by have := hb1.size; omega) (fun k hk => (hown.lt k hk).1)).setCell (p := ⟨b, 1, none⟩) hB _
end Go.Proofs.YtcdodfehnkgjdaaGreatDoor

/- Contracts of Print's closure and of Print. -/
namespace Go.Proofs.YtcdodfehnkgjdaaGreatDoor
open Go.RowKit

/-- strconv.Itoa answers for a number, in every world that keeps what lies below B in w0. -/
def ItoaOk (n : Int) (B : Nat) (w0 : World) : Prop :=
  ∀ W, Below B w0 W → Calls Tryz.prog 59 #[.int .i64 n] W fun e w' => e = .returned (.string ⟨(Lib.itoa n).toArray⟩) ∧ Below W.heap.size W w'
theorem ItoaOk.up {n : Int} {B B' : Nat} {w w' : World} (h : ItoaOk n B w) (hB : B ≤ B') (hb : Below B w w') : ItoaOk n B' w' := fun W hW => h W (hb.trans (hW.mono hB))
theorem itoaOk_small (n : Int) (B : Nat) (w : World) (h0 : 0 ≤ n) (h1 : n < 100) : ItoaOk n B w := fun W _ => by
  obtain ⟨i, rfl⟩ : ∃ i : Nat, n = i := ⟨n.toNat, by omega⟩
  refine (Tryz.strconv_Itoa_small i (by omega) W).mono ?_
  rintro e w' ⟨rfl, rfl⟩
  exact ⟨by simp [Lib.itoa], Below.refl _ _⟩

abbrev Bld (b : Nat) (l : List UInt8) (w : World) : Prop := Lib.IsBuilderF 99 5 b b (Lib.byteCells l) w
theorem bld_at {b : Nat} {l : List UInt8} {w : World} {p : Value} (hp : p = .pointer none ∨ p = .pointer (some ⟨b, 0, none⟩)) (h : Lib.BuilderAtF 99 5 b b p (Lib.byteCells l) w) : Bld b l w := by
  rcases hp with rfl | rfl
  · exact .inl h
  · exact .inr h
theorem Bld.below {b : Nat} {l : List UInt8} {w w' : World} (h : Bld b l w) (hb : Below w.heap.size w w') : Bld b l w' := by
  have key : ∀ p, Lib.BuilderAtF 99 5 b b p (Lib.byteCells l) w → Lib.BuilderAtF 99 5 b b p (Lib.byteCells l) w' := by
    rintro p ⟨hB, v, hbk, hown, hne⟩
    refine ⟨hB, v, (hb.block b (Array.getElem?_eq_some_iff.1 hbk).1).trans hbk, ⟨hown.1, ?_⟩, hne⟩
    rcases hown.2 with h' | ⟨g, cap, cur, fz, e, hg, hgb, r⟩
    · exact .inl h'
    · exact .inr ⟨g, cap, cur, fz, e, hg, (hb.block g (Array.getElem?_eq_some_iff.1 hgb).1).trans hgb, r⟩
  exact h.imp (key _) (key _)
theorem others_below {e : TypeId} {b : Option Nat} {w w' : World} (h : Below w.heap.size w w') : Lib.OthersKept e b w w' := fun k _o hk _ _ => (h.block k (Array.getElem?_eq_some_iff.1 hk).1).trans hk

theorem strCells_arr (l : List UInt8) : Lib.strCells ⟨l.toArray⟩ = Lib.byteCells l := rfl
def PutPost (b : Nat) (l : List UInt8) (w : World) (e : Ending) (w' : World) : Prop :=
  (∃ v, e = .returned v) ∧ Bld b l w' ∧ Below b w w' ∧ Lib.OthersKept 5 (some b) w w'

set_option maxHeartbeats 1000000 in
set_option maxRecDepth 100000 in
theorem put_any (b : Nat) (l : List UInt8) (word : ByteArray) (n : Int) (w : World) (h : Bld b l w) (hlen : l.length + word.size + 21 ≤ 1000000000) (hbw : b < w.heap.size) (h0 : 0 ≤ n) (h1 : n ≤ 9223372036854775807) (hI : ItoaOk n b w) :
    Calls Tryz.prog 57 #[.string word, .int .i64 n, .pointer (some ⟨b, 0, none⟩)] w (PutPost b (l ++ (word.data.toList ++ Lib.itoa n)) w) := by
  have HI := Lib.hid hI
  have HLI := Lib.hid (Lib.itoa_length_le n (by omega) h1)
  have hs : word.data.toList.length = word.size := rfl
  have HS := Lib.hid hs
  clear hI hs
  go_enter Tryz.func57, Tryz.ntmps57
  go_wp2_with fail
  refine (writeString_any b b (Lib.byteCells l) word w h (by rw [Lib.byteCells_length]; omega) (by omega)).mono ?_
  rintro e w1 ⟨rfl, hA, hb1, ho1⟩
  rw [Lib.strCells_eq, ← Lib.byteCells_append] at hA
  have hB1 : Bld b (l ++ word.data.toList) w1 := bld_at (.inr rfl) hA
  have hs1 := hb1.size
  have HB1 := Lib.hid hB1
  have HBe := Lib.hid hb1
  have HO1 := Lib.hid ho1
  clear hA hB1 hb1 ho1
  go_wp2_with fail
  refine (HI.out w1 HBe.out).mono ?_
  rintro e w2 ⟨rfl, hb2⟩
  have HB2 := Lib.hid (HB1.out.below hb2)
  have hs2 := hb2.size
  have HBe2 := Lib.hid (HBe.out.trans (hb2.mono (by omega)))
  have HO2 := Lib.hid (HO1.out.trans (others_below hb2))
  clear hb2
  go_wp2_with fail
  refine (writeString_any b b _ ⟨(Lib.itoa n).toArray⟩ w2 HB2.out (by rw [Lib.byteCells_length]; have := HLI.out; have := HS.out; simp only [List.length_append]; show _ + (Lib.itoa n).toArray.size ≤ _; rw [List.size_toArray]; omega) (by omega)).mono ?_
  rintro e w3 ⟨rfl, hA, hb3, ho3⟩
  rw [strCells_arr, ← Lib.byteCells_append] at hA
  have H3 := Lib.hid (And.intro (bld_at (.inr rfl) hA) (And.intro (HBe2.out.trans hb3) (HO2.out.trans ho3)))
  clear hA hb3 ho3
  go_wp2_with fail
  refine bodyPost_end (results_none rfl _ _ _) rfl ?_
  exact ⟨⟨_, rfl⟩, by have := H3.out.1; rwa [List.append_assoc] at this, H3.out.2.1, H3.out.2.2⟩

/-- The words of a text. -/
def wEvery : List UInt8 := [101, 118, 101, 114, 121, 32]
def wFrom : List UInt8 := [32, 102, 114, 111, 109, 32]
def wFor : List UInt8 := [32, 102, 111, 114, 32]
def wBetween : List UInt8 := [98, 101, 116, 119, 101, 101, 110, 32]
def wAnd : List UInt8 := [32, 97, 110, 100, 32]
def wEnd : List UInt8 := [59, 10]
def textT (t : T3) : List UInt8 := wEvery ++ Lib.itoa t.1 ++ (wFrom ++ Lib.itoa t.2.1) ++ (wFor ++ Lib.itoa t.2.2) ++ wEnd
def textS (s : S2) : List UInt8 := wBetween ++ Lib.itoa s.1 ++ (wAnd ++ Lib.itoa s.2) ++ wEnd
def textTs (ts : List T3) : List UInt8 := ts.flatMap textT
def textSs (ss : List S2) : List UInt8 := ss.flatMap textS
theorem textTs_snoc (ts : List T3) (t : T3) : textTs (ts ++ [t]) = textTs ts ++ textT t := by simp [textTs, List.flatMap_append]
theorem textSs_snoc (ss : List S2) (s : S2) : textSs (ss ++ [s]) = textSs ss ++ textS s := by simp [textSs, List.flatMap_append]
theorem textT_len {t : T3} (h : TOk t.1 t.2.1 t.2.2) : (textT t).length ≤ 100 := by
  obtain ⟨h1, h2, h3, h4, h5, h6⟩ := h
  have := Lib.itoa_length_le t.1 (by omega) (by omega)
  have := Lib.itoa_length_le t.2.1 (by omega) (by omega)
  have := Lib.itoa_length_le t.2.2 (by omega) (by omega)
  simp [textT, wEvery, wFrom, wFor, wEnd]; omega
theorem textS_len {s : S2} (h : SOk s.1 s.2) : (textS s).length ≤ 100 := by
  obtain ⟨h1, h2, h3⟩ := h
  have := Lib.itoa_length_le s.1 (by omega) (by omega)
  have := Lib.itoa_length_le s.2 (by omega) (by omega)
  simp [textS, wBetween, wAnd, wEnd]; omega
theorem textTs_len : ∀ (ts : List T3), (∀ t ∈ ts, TOk t.1 t.2.1 t.2.2) → (textTs ts).length ≤ 100 * ts.length
  | [], _ => by simp [textTs]
  | t :: ts, h => by
    have := textTs_len ts (fun x hx => h x (by simp [hx]))
    have := textT_len (h t (by simp))
    have e : textTs (t :: ts) = textT t ++ textTs ts := rfl
    rw [e, List.length_append, List.length_cons]; omega
theorem textSs_len : ∀ (ss : List S2), (∀ s ∈ ss, SOk s.1 s.2) → (textSs ss).length ≤ 100 * ss.length
  | [], _ => by simp [textSs]
  | s :: ss, h => by
    have := textSs_len ss (fun x hx => h x (by simp [hx]))
    have := textS_len (h s (by simp))
    have e : textSs (s :: ss) = textS s ++ textSs ss := rfl
    rw [e, List.length_append, List.length_cons]; omega
theorem cells_of3 {w : World} {g T : Nat} {x y z : Value} (h : w.heap[g]? = some (.cells #[x, y, z] T (0, 0))) : w.cell? ⟨g, 0, none⟩ = some x ∧ w.cell? ⟨g, 1, none⟩ = some y ∧ w.cell? ⟨g, 2, none⟩ = some z := by simp [World.cell?, h]
theorem cells_of2 {w : World} {g T : Nat} {x y : Value} (h : w.heap[g]? = some (.cells #[x, y] T (0, 0))) : w.cell? ⟨g, 0, none⟩ = some x ∧ w.cell? ⟨g, 1, none⟩ = some y := by simp [World.cell?, h]

def PrintPost (ts : List T3) (ss : List S2) (w : World) (e : Ending) (w' : World) : Prop :=
  e = .returned (.tuple #[.string ⟨(textTs ts ++ textSs ss).toArray⟩, .int .i64 0]) ∧ Below w.heap.size w w'
/-- strconv.Itoa answers for all numbers of a set. -/
def ItoaAll (ts : List T3) (ss : List S2) (w : World) : Prop :=
  (∀ t ∈ ts, ItoaOk t.1 w.heap.size w ∧ ItoaOk t.2.1 w.heap.size w ∧ ItoaOk t.2.2 w.heap.size w) ∧ ∀ s ∈ ss, ItoaOk s.1 w.heap.size w ∧ ItoaOk s.2 w.heap.size w

set_option maxHeartbeats 4000000 in
set_option maxRecDepth 1000000 in
theorem print_ok (v : Value) (ts : List T3) (ss : List S2) (w : World) (h : RM w.heap.size v ts ss w) (hc : CheckIs ts ss 0) (hI : ItoaAll ts ss w) :
    Calls Tryz.prog 23 #[v] w (PrintPost ts ss w) := by
  have hok : ts.length ≤ 24 ∧ ss.length ≤ 40 ∧ AllOk ts ss := by
    rcases hc with ⟨_, h⟩ | ⟨h1, h2, h3, _⟩ | ⟨_, _, _, h⟩
    · omega
    · exact ⟨h1, h2, h3⟩
    · omega
  obtain ⟨k1, k2, k3⟩ := hok
  have H := Lib.hid h
  obtain ⟨A, m, ca, A', m', ca', rfl, r1, r2⟩ := h
  have C : Hid (∀ W, Below w.heap.size w W → w.heap.size ≤ W.heap.size → Calls Tryz.prog 12 #[.agg #[.slice A m ca, .slice A' m' ca']] W fun e w' => e = .returned (.int .i64 0) ∧ Below W.heap.size W w') :=
    Lib.hid fun W hb hs => check_any _ _ ts ss 0 W (r1.up hs hb) (r2.up hs hb) hc
  obtain ⟨A1, c1, e1, n1, hx⟩ := r1
  obtain ⟨rfl, rfl, rfl⟩ : A = A1 ∧ m = ts.length ∧ ca = c1 := by simpa using e1
  obtain ⟨A2, c2, e2, n2, hy⟩ := r2
  obtain ⟨rfl, rfl, rfl⟩ : A' = A2 ∧ m' = ss.length ∧ ca' = c2 := by simpa using e2
  have HX := Lib.hid hx
  have HY := Lib.hid hy
  have HK := Lib.hid k3
  have HI := Lib.hid hI
  clear hx hy e1 e2 k3 hI hc
  go_enter Tryz.func23, Tryz.ntmps23
  go_wp2_with fail
  refine (C.out _ ((Below.refl w.heap.size w).alloc (Nat.le_refl _) _) (by simp)).mono ?_
  rintro e w1 ⟨rfl, hb1⟩
  have hz := hb1.size
  have y0 : w1.cell? ⟨w.heap.size, 0, none⟩ = some (.slice A ts.length ca) := (hb1.cell (p := ⟨w.heap.size, 0, none⟩) (by simp)).trans (by simp [go_sem])
  have y1 : w1.cell? ⟨w.heap.size, 1, none⟩ = some (.slice A' ss.length ca') := (hb1.cell (p := ⟨w.heap.size, 1, none⟩) (by simp)).trans (by simp [go_sem])
  have hl0 : w.heap.size + 1 ≤ w1.heap.size := by simpa using hz
  have B1 := Lib.hid (((Below.refl w.heap.size w).alloc (Nat.le_refl _) (.cells #[.slice A ts.length ca, .slice A' ss.length ca'] 25)).trans (hb1.mono (by simp)))
  have Y := Lib.hid (And.intro y0 y1)
  have x0 : (w1.alloc (.cells #[.pointer none, .slice none 0 0] 99)).cell? ⟨w.heap.size, 0, none⟩ = some (.slice A ts.length ca) := (World.cell?_alloc_lt _ _ _ (by show w.heap.size < _; omega)).trans y0
  have x1 : (w1.alloc (.cells #[.pointer none, .slice none 0 0] 99)).cell? ⟨w.heap.size, 1, none⟩ = some (.slice A' ss.length ca') := (World.cell?_alloc_lt _ _ _ (by show w.heap.size < _; omega)).trans y1
  have hBl : Bld w1.heap.size [] (w1.alloc (.cells #[.pointer none, .slice none 0 0] 99)) := Lib.IsBuilderF.of (Lib.fresh_isBuilder 99 5 w1)
  have HBl := Lib.hid hBl
  clear hb1 hz hBl
  go_wp2_with fail
  clear x0 x1
  go_loopw [20] (fun u wr => ∃ k : Nat, u = .int .i64 k ∧ k ≤ ts.length ∧ Bld w1.heap.size (textTs (ts.take k)) wr ∧ Below w1.heap.size w1 wr ∧ w1.heap.size < wr.heap.size) (fun u _ => ts.length - (intOf u).toNat)
  case atStart => exact ⟨0, rfl, by omega, HBl.out, (Below.refl _ _).alloc (Nat.le_refl _) _, by simp⟩
  case round =>
    obtain ⟨k, rfl, hk, hbl, hB, hlt⟩ := hrel
    have HBl := Lib.hid hbl
    have HB := Lib.hid hB
    clear hbl hB
    by_cases hkn : k < ts.length
    · obtain ⟨⟨tp, tf, tl⟩, ht⟩ : ∃ t, ts[k]? = some t := ⟨_, List.getElem?_eq_getElem hkn⟩
      obtain ⟨bt, ot, rfl, hbt, hct⟩ := HX.out (by omega)
      obtain ⟨r0, r1, r2⟩ := hct k tp tf tl ht
      have hBw := B1.out.trans (HB.out.mono (by omega))
      have c0 := (hBw.cell (p := ⟨bt, ot + k * 3, none⟩) hbt).trans r0
      have c1 := (hBw.cell (p := ⟨bt, ot + k * 3 + 1, none⟩) hbt).trans r1
      have c2 := (hBw.cell (p := ⟨bt, ot + k * 3 + 2, none⟩) hbt).trans r2
      have hk0 : (k : Int) < (ts.length : Int) := by omega
      have htm := List.mem_of_getElem? ht
      obtain ⟨t1, t2, t3, t4, t5, t6⟩ := HK.out.1 _ htm
      obtain ⟨i1, i2, i3⟩ := HI.out.1 _ htm
      simp only at t1 t2 t3 t4 t5 t6 i1 i2 i3
      have HT : Hid (textTs (ts.take (k + 1)) = textTs (ts.take k) ++ textT (tp, tf, tl)) := Lib.hid (by
        obtain ⟨q1, q2⟩ := List.getElem?_eq_some_iff.1 ht
        rw [List.take_succ_eq_append_getElem q1, textTs_snoc, q2])
      have hlen := textTs_len (ts.take k) (fun t q => HK.out.1 t (List.mem_of_mem_take q))
      rw [List.length_take] at hlen
      have hl1 := Lib.itoa_length_le tp (by omega) (by omega)
      have hl2 := Lib.itoa_length_le tf (by omega) (by omega)
      have hl3 := Lib.itoa_length_le tl (by omega) (by omega)
      have HBw := Lib.hid hBw
      have HLen := Lib.hid hlen
      have II := Lib.hid (And.intro i1 (And.intro i2 i3))
      have LL := Lib.hid (And.intro hl1 (And.intro hl2 hl3))
      have HB2 := Lib.hid (HB.out.alloc (by omega) (.cells #[.int .i64 tp, .int .i64 tf, .int .i64 tl] 42))
      have HBl2 := Lib.hid (HBl.out.below ((Below.refl _ _).alloc (Nat.le_refl _) (.cells #[.int .i64 tp, .int .i64 tf, .int .i64 tl] 42)))
      have HE := Lib.hid (show (wr.alloc (.cells #[.int .i64 tp, .int .i64 tf, .int .i64 tl] 42)).heap[wr.heap.size]? = some (.cells #[.int .i64 tp, .int .i64 tf, .int .i64 tl] 42 (0, 0)) from World.alloc_heap_new wr _)
      clear ht r0 r1 r2 hct hBw hlen i1 i2 i3 hl1 hl2 hl3 htm
      go_wp2_with fail
      refine (put_any w1.heap.size _ ⟨#[101, 118, 101, 114, 121, 32]⟩ tp _ HBl2.out (by have := HLen.out; show _ + 6 + 21 ≤ _; omega) (by simp; omega) (by omega) (by omega) (II.out.1.up (by omega) (B1.out.trans (HB2.out.mono (by omega))))).mono ?_
      rintro e w4 ⟨⟨ve4, rfl⟩, hbl4, hb4, ho4⟩
      have he4 := ho4 wr.heap.size _ HE.out (by simp; omega) (by intro c fz e; cases e)
      obtain ⟨q0, q1, q2⟩ := cells_of3 he4
      have HE4 := Lib.hid he4
      have HBl4 := Lib.hid hbl4
      have HB4 := Lib.hid (HB2.out.trans hb4)
      have hs4 : w1.heap.size < w4.heap.size := by have := hb4.size; simp at this; omega
      clear he4 hbl4 hb4 ho4
      go_wp2_with fail
      refine (put_any w1.heap.size _ ⟨#[32, 102, 114, 111, 109, 32]⟩ tf _ HBl4.out (by have := HLen.out; have := LL.out; simp only [List.length_append]; show _ + (6 + _) + 6 + 21 ≤ _; omega) (by omega) (by omega) (by omega) (II.out.2.1.up (by omega) (B1.out.trans (HB4.out.mono (by omega))))).mono ?_
      rintro e w5 ⟨⟨ve5, rfl⟩, hbl5, hb5, ho5⟩
      have he5 := ho5 wr.heap.size _ HE4.out (by simp; omega) (by intro c fz e; cases e)
      clear q0 q1 q2
      obtain ⟨q0, q1, q2⟩ := cells_of3 he5
      have HE5 := Lib.hid he5
      have HBl5 := Lib.hid hbl5
      have HB5 := Lib.hid (HB4.out.trans hb5)
      have hs5 : w1.heap.size < w5.heap.size := by have := hb5.size; omega
      clear he5 hbl5 hb5 ho5
      go_wp2_with fail
      refine (put_any w1.heap.size _ ⟨#[32, 102, 111, 114, 32]⟩ tl _ HBl5.out (by have := HLen.out; have := LL.out; simp only [List.length_append]; show _ + (6 + _) + (6 + _) + 5 + 21 ≤ _; omega) (by omega) (by omega) (by omega) (II.out.2.2.up (by omega) (B1.out.trans (HB5.out.mono (by omega))))).mono ?_
      rintro e w6 ⟨⟨ve6, rfl⟩, hbl6, hb6, ho6⟩
      have HBl6 := Lib.hid hbl6
      have HB6 := Lib.hid (HB5.out.trans hb6)
      have hs6 : w1.heap.size < w6.heap.size := by have := hb6.size; omega
      clear hbl6 hb6 ho6 q0 q1 q2
      go_wp2_with fail
      refine (writeString_any w1.heap.size w1.heap.size _ ⟨#[59, 10]⟩ w6 HBl6.out (by rw [Lib.byteCells_length]; have := HLen.out; have := LL.out; simp only [List.length_append]; show _ + (6 + _) + (6 + _) + (5 + _) + 2 ≤ _; omega) (by omega)).mono ?_
      rintro e w7 ⟨rfl, hA, hb7, ho7⟩
      rw [Lib.strCells_eq, ← Lib.byteCells_append] at hA
      have HBl7 := Lib.hid (bld_at (.inr rfl) hA)
      have HB7 := Lib.hid (HB6.out.trans hb7)
      have hs7 : w1.heap.size < w7.heap.size := by have := hb7.size; omega
      clear hA hb7 ho7
      go_wp2_with fail
      go_roundw
      case rel =>
        refine ⟨k + 1, by go_num, by omega, ?_, HB7.out, hs7⟩
        rw [HT.out]
        have := HBl7.out
        simpa [textT, wEvery, wFrom, wFor, wEnd, List.append_assoc] using this
      case measure => show ts.length - ((k : Int) + 1).toNat < ts.length - (k : Int).toNat; omega
    · obtain rfl : k = ts.length := by omega
      rw [List.take_length] at HBl
      have y0 := (HB.out.cell (p := ⟨w.heap.size, 0, none⟩) (by show w.heap.size < _; omega)).trans Y.out.1
      have y1 := (HB.out.cell (p := ⟨w.heap.size, 1, none⟩) (by show w.heap.size < _; omega)).trans Y.out.2
      go_wp2_with fail
      clear y0 y1
      have HBl0 := Lib.hid HBl.out
      have HB0 := Lib.hid HB.out
      have hlenT := Lib.hid (textTs_len ts HK.out.1)
      go_loopw [41] (fun u wr2 => ∃ k : Nat, u = .int .i64 k ∧ k ≤ ss.length ∧ Bld w1.heap.size (textTs ts ++ textSs (ss.take k)) wr2 ∧ Below w1.heap.size w1 wr2 ∧ w1.heap.size < wr2.heap.size) (fun u _ => ss.length - (intOf u).toNat)
      case atStart => exact ⟨0, rfl, by omega, by simpa [textSs] using HBl.out, HB.out, hlt⟩
      case round =>
        obtain ⟨k, rfl, hk, hbl, hB, hlt⟩ := hrel
        clear HBl HB HBl0 HB0
        have HBl := Lib.hid hbl
        have HB := Lib.hid hB
        clear hbl hB
        by_cases hkn : k < ss.length
        · obtain ⟨⟨lo, hi⟩, ht⟩ : ∃ t, ss[k]? = some t := ⟨_, List.getElem?_eq_getElem hkn⟩
          obtain ⟨bt, ot, rfl, hbt, hct⟩ := HY.out (by omega)
          obtain ⟨r0, r1⟩ := hct k lo hi ht
          have hBw := B1.out.trans (HB.out.mono (by omega))
          have c0 := (hBw.cell (p := ⟨bt, ot + k * 2, none⟩) hbt).trans r0
          have c1 := (hBw.cell (p := ⟨bt, ot + k * 2 + 1, none⟩) hbt).trans r1
          have hk0 : (k : Int) < (ss.length : Int) := by omega
          have htm := List.mem_of_getElem? ht
          obtain ⟨t1, t2, t3⟩ := HK.out.2 _ htm
          obtain ⟨i1, i2⟩ := HI.out.2 _ htm
          simp only at t1 t2 t3 i1 i2
          have HT : Hid (textSs (ss.take (k + 1)) = textSs (ss.take k) ++ textS (lo, hi)) := Lib.hid (by
            obtain ⟨q1, q2⟩ := List.getElem?_eq_some_iff.1 ht
            rw [List.take_succ_eq_append_getElem q1, textSs_snoc, q2])
          have hlen := textSs_len (ss.take k) (fun t q => HK.out.2 t (List.mem_of_mem_take q))
          rw [List.length_take] at hlen
          have hl1 := Lib.itoa_length_le lo (by omega) (by omega)
          have hl2 := Lib.itoa_length_le hi (by omega) (by omega)
          have HLen := Lib.hid hlen
          have II := Lib.hid (And.intro i1 i2)
          have LL := Lib.hid (And.intro hl1 hl2)
          have HB2 := Lib.hid (HB.out.alloc (by omega) (.cells #[.int .i64 lo, .int .i64 hi] 45))
          have HBl2 := Lib.hid (HBl.out.below ((Below.refl _ _).alloc (Nat.le_refl _) (.cells #[.int .i64 lo, .int .i64 hi] 45)))
          have HE := Lib.hid (World.alloc_heap_new wr (.cells #[.int .i64 lo, .int .i64 hi] 45))
          clear ht r0 r1 hct hBw hlen i1 i2 hl1 hl2 htm
          go_wp2_with fail
          refine (put_any w1.heap.size _ ⟨#[98, 101, 116, 119, 101, 101, 110, 32]⟩ lo _ HBl2.out (by have := HLen.out; have := hlenT.out; simp only [List.length_append]; show _ + 8 + 21 ≤ _; omega) (by simp; omega) (by omega) (by omega) (II.out.1.up (by omega) (B1.out.trans (HB2.out.mono (by omega))))).mono ?_
          rintro e w4 ⟨⟨ve4, rfl⟩, hbl4, hb4, ho4⟩
          have he4 := ho4 wr.heap.size _ HE.out (by simp; omega) (by intro c fz e; cases e)
          obtain ⟨q0, q1⟩ := cells_of2 he4
          have HE4 := Lib.hid he4
          have HBl4 := Lib.hid hbl4
          have HB4 := Lib.hid (HB2.out.trans hb4)
          have hs4 : w1.heap.size < w4.heap.size := by have := hb4.size; simp at this; omega
          clear he4 hbl4 hb4 ho4
          go_wp2_with fail
          refine (put_any w1.heap.size _ ⟨#[32, 97, 110, 100, 32]⟩ hi _ HBl4.out (by have := HLen.out; have := hlenT.out; have := LL.out; simp only [List.length_append]; show _ + (8 + _) + 5 + 21 ≤ _; omega) (by omega) (by omega) (by omega) (II.out.2.up (by omega) (B1.out.trans (HB4.out.mono (by omega))))).mono ?_
          rintro e w6 ⟨⟨ve6, rfl⟩, hbl6, hb6, ho6⟩
          have HBl6 := Lib.hid hbl6
          have HB6 := Lib.hid (HB4.out.trans hb6)
          have hs6 : w1.heap.size < w6.heap.size := by have := hb6.size; omega
          clear hbl6 hb6 ho6 q0 q1
          go_wp2_with fail
          refine (writeString_any w1.heap.size w1.heap.size _ ⟨#[59, 10]⟩ w6 HBl6.out (by rw [Lib.byteCells_length]; have := HLen.out; have := hlenT.out; have := LL.out; simp only [List.length_append]; show _ + (8 + _) + (5 + _) + 2 ≤ _; omega) (by omega)).mono ?_
          rintro e w7 ⟨rfl, hA, hb7, ho7⟩
          rw [Lib.strCells_eq, ← Lib.byteCells_append] at hA
          have HBl7 := Lib.hid (bld_at (.inr rfl) hA)
          have HB7 := Lib.hid (HB6.out.trans hb7)
          have hs7 : w1.heap.size < w7.heap.size := by have := hb7.size; omega
          clear hA hb7 ho7
          go_wp2_with fail
          go_roundw
          case rel =>
            refine ⟨k + 1, by go_num, by omega, ?_, HB7.out, hs7⟩
            rw [HT.out]
            have := HBl7.out
            simpa [textS, wBetween, wAnd, wEnd, List.append_assoc] using this
          case measure => show ss.length - ((k : Int) + 1).toNat < ss.length - (k : Int).toNat; omega
        · obtain rfl : k = ss.length := by omega
          rw [List.take_length] at HBl
          go_wp2_with fail
          refine (Tryz.Builder_String_any_k w1.heap.size w1.heap.size _ _ HBl.out (by omega)).mono ?_
          rintro e w8 ⟨rfl, -, hb8, -⟩
          have HB8 := Lib.hid (B1.out.trans ((HB.out.trans hb8).mono (by omega)))
          clear hb8
          go_wp2_with fail
          go_ret2
          exact ⟨rfl, HB8.out⟩
end Go.Proofs.YtcdodfehnkgjdaaGreatDoor
