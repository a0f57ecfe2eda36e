/- Contract of turn.First where the turns meet. -/
import Derived.Test.YtcdodfehnkgjdaaGreatDoorA4
namespace Go.Proofs.YtcdodfehnkgjdaaGreatDoor
open Go.RowKit

/-- A block's first two cells. -/
def Two (b : Nat) (x y : Value) (W : World) : Prop := W.cell? ⟨b, 0, none⟩ = some x ∧ W.cell? ⟨b, 1, none⟩ = some y ∧ b < W.heap.size
section
variable {W W' : World} {b : Nat} {x y : Value}
theorem Two.new (t : TypeId) : Two W.heap.size x y (W.alloc (.cells #[x, y] t)) := ⟨by simp [go_sem], by simp [go_sem], by simp⟩
theorem Two.new1 (o : Obj) (t : TypeId) : Two (W.heap.size + 1) x y ((W.alloc o).alloc (.cells #[x, y] t)) := ⟨by simp [go_sem], by simp [go_sem], by simp⟩
theorem Two.newS (p q : Addr) (u v : Value) (t : TypeId) : Two W.heap.size x y (((W.setCell p u).setCell q v).alloc (.cells #[x, y] t)) := by
  have h := Two.new (W := (W.setCell p u).setCell q v) (x := x) (y := y) t
  have e : ((W.setCell p u).setCell q v).heap.size = W.heap.size := by simp [go_sem]
  rwa [e] at h
theorem Two.below (h : Two b x y W) (hb : Below W.heap.size W W') : Two b x y W' :=
  ⟨(hb.cell (p := ⟨b, 0, none⟩) h.2.2).trans h.1, (hb.cell (p := ⟨b, 1, none⟩) h.2.2).trans h.2.1, Nat.lt_of_lt_of_le h.2.2 hb.size⟩
theorem Two.alloc (h : Two b x y W) (o : Obj) : Two b x y (W.alloc o) := h.below ((Below.refl _ _).alloc (Nat.le_refl _) _)
theorem Two.drew (h : Two b x y W) : Two b x y W.drew := h
theorem Two.other (h : Two b x y W) {g k : Nat} (hg : b ≠ g) (v : Value) : Two b x y (W.setCell ⟨g, k, none⟩ v) :=
  ⟨(World.cell?_setCell_other W ⟨g, k, none⟩ ⟨b, 0, none⟩ v (fun e => hg (by cases e; rfl))).trans h.1,
   (World.cell?_setCell_other W ⟨g, k, none⟩ ⟨b, 1, none⟩ v (fun e => hg (by cases e; rfl))).trans h.2.1, by simpa [go_sem] using h.2.2⟩
theorem Two.set (h : Two b x y W) (x' y' : Value) : Two b x' y' ((W.setCell ⟨b, 0, none⟩ x').setCell ⟨b, 1, none⟩ y') := by
  have h1 : (W.setCell ⟨b, 0, none⟩ x').cell? ⟨b, 1, none⟩ = some y := (World.cell?_setCell_other W ⟨b, 0, none⟩ ⟨b, 1, none⟩ x' (by intro e; cases e)).trans h.2.1
  refine ⟨?_, World.cell?_setCell_same' _ _ _ (by rw [h1]; rfl), by simpa [go_sem] using h.2.2⟩
  rw [World.cell?_setCell_other _ ⟨b, 1, none⟩ ⟨b, 0, none⟩ _ (by intro e; cases e)]
  exact World.cell?_setCell_same' _ _ _ (by rw [h.1]; rfl)
end

set_option maxHeartbeats 4000000 in
theorem first_some (pa fa la pb fb lb N : Int) (w : World) (ha : TOk pa fa la) (hb : TOk pb fb lb) (h : kaB la ((fb - fa) % (Int.gcd pa pb : Int)) lb (Int.gcd pa pb) = false)
    (hN0 : 0 ≤ N) (hN1 : N ≤ 1000000000000) (hNa : inT pa fa la N) (hNb : inT pb fb lb N) (hNl : ∀ m, 0 ≤ m → m < N → ¬ (inT pa fa la m ∧ inT pb fb lb m)) :
    Calls Tryz.prog 16 #[tv pa fa la, tv pb fb lb] w fun e w' => e = .returned (.tuple #[.int .i64 N, .int .i64 0]) ∧ Below w.heap.size w w' := by
  have g1 := gcd_pos (b := pb) ha.1
  have g2 := gcd_le (b := pb) ha.1
  have a2 := ha.2.1
  have a1 := ha.1
  have b1 := hb.1
  have b2 := hb.2.1
  have a3 := ha.2.2.2.2.2
  have b3 := hb.2.2.2.2.2
  have a4 := ha.2.2.2.2.1
  have b4 := hb.2.2.2.2.1
  have S0 := Lib.hid (SS.new (w := w) (pa := pa) (fa := fa) (la := la) (pb := pb) (fb := fb) (lb := lb) 42 42)
  have D' := Lib.hid fun w => divisor_any pa pb w (by omega) (by omega) (by omega) (by omega)
  have K := fun w => keepsApart_any pa fa la pb fb lb (Int.gcd pa pb) w ha hb g1 (by omega)
  rw [h] at K
  have K' := Lib.hid K
  have HNa := Lib.hid hNa
  have HNb := Lib.hid hNb
  have HNl := Lib.hid hNl
  clear K h hNa hNb hNl
  go_enter Tryz.func16, Tryz.ntmps16
  go_wp2_with fail
  refine (checkPair_any pa fa la pb fb lb 0 _ (.inl ⟨ha, hb, rfl⟩)).mono ?_
  rintro e w1 ⟨rfl, h1⟩
  have S1 := SS.below S0.out h1
  clear h1 S0
  have S1' := Lib.hid S1
  obtain ⟨t0, t1, t2, t3, t4, t5, t6, _⟩ := S1
  go_wp2_with fail
  go_region_held3 (SS w pa fa la pb fb lb) (first | exact SS.drewN S1'.out _ | exact SS.drew S1'.out | exact S2)
      (first
        | (go_at_call 48; refine (D'.out _).mono ?_; rintro e w' ⟨rfl, n, rfl⟩)
        | (go_at_call 47; refine (K'.out _).mono ?_; rintro e w2 ⟨rfl, h2⟩; have S2 := SS.below (SS.drewN S1'.out _) h2; clear h2))
  have S2' := Lib.hid S2
  clear S2 t0 t1 t2 t3 t4 t5 t6 D' K'
  go_wp2_with fail
  go_loopw [7] (fun t wr => ∃ n : Int, t = .int .i64 n ∧ 0 ≤ n ∧ n ≤ N ∧ (∀ m, 0 ≤ m → m < n → ¬ (inT pa fa la m ∧ inT pb fb lb m)) ∧ SS w pa fa la pb fb lb wr) (fun t _ => (N - intOf t).toNat)
  case atStart => exact ⟨0, rfl, by omega, hN0, fun m _ _ => by omega, S2'.out⟩
  case round =>
    obtain ⟨n, rfl, hn0, hn1, hnl, S3⟩ := hrel
    have S3' := Lib.hid S3
    have Hnl := Lib.hid hnl
    clear hnl
    obtain ⟨t0, t1, t2, t3, t4, t5, t6, _⟩ := S3
    have Fa := Lib.hid fun w => from_any pa fa la n w ha (by omega) (by omega)
    have Fb := Lib.hid fun w => from_any pb fb lb n w hb (by omega) (by omega)
    obtain ⟨x1, x2, x3, x4⟩ := fromLo_spec (n := n) ha
    obtain ⟨y1, y2, y3, y4⟩ := fromLo_spec (n := n) hb
    have X3 := Lib.hid x3
    have X4 := Lib.hid x4
    have Y3 := Lib.hid y3
    have Y4 := Lib.hid y4
    clear x3 x4 y3 y4
    generalize fromLo pa fa la n = a0 at *
    generalize fromLo pb fb lb n = b0 at *
    go_upto_region 7 with fail
    go_cut [7, 8, 9] from 24 to 43 (fun s7 s8 s9 wx => ∃ b8 b9 : Nat, s7 = .int .i64 n ∧ s8 = .pointer (some ⟨b8, 0, none⟩) ∧ s9 = .pointer (some ⟨b9, 0, none⟩) ∧ Two b8 (.int .i64 a0) (.int .i64 (a0 + la - 1)) wx ∧ Two b9 (.int .i64 b0) (.int .i64 (b0 + lb - 1)) wx ∧ SSd w pa fa la pb fb lb wx)
    case rest =>
      obtain ⟨b8, b9, rfl, rfl, rfl, ⟨q0, q1, q2⟩, ⟨r0, r1, r2⟩, S6⟩ := hcut
      have key := fun M => first_step (M := M) hn0 hn1 HNa.out HNb.out Hnl.out HNl.out X3.out X4.out Y3.out Y4.out x1 y1
      have Key := Lib.hid key
      clear key
      go_wp2_with fail
      rotate_right 1
      · go_roundw
        case rel =>
          have hm := Key.out (if (if n < a0 then a0 else n) < b0 then b0 else if n < a0 then a0 else n) (by split <;> split <;> omega) (by split <;> split <;> omega) (by split <;> split <;> omega) (by split <;> split <;> omega)
          exact ⟨_, rfl, hm.1, hm.2.1, hm.2.2.1, S6⟩
        case measure =>
          have hm := Key.out (if (if n < a0 then a0 else n) < b0 then b0 else if n < a0 then a0 else n) (by split <;> split <;> omega) (by split <;> split <;> omega) (by split <;> split <;> omega) (by split <;> split <;> omega)
          have h5 := hm.2.2.2.2 (by rename_i ht; generalize (if (if n < a0 then a0 else n) < b0 then b0 else if n < a0 then a0 else n) = M at *; intro hx; split at ht <;> omega)
          have h6 := hm.2.1
          show (N - (if (if n < a0 then a0 else n) < b0 then b0 else if n < a0 then a0 else n)).toNat < (N - n).toNat
          generalize (if (if n < a0 then a0 else n) < b0 then b0 else if n < a0 then a0 else n) = M at *
          omega
      all_goals
        clear Fa Fb
        go_ret2
        first
          | (have e := (Key.out b0 (by omega) (by omega) (by omega) (by omega)).2.2.2.1 (by constructor <;> omega); rw [e]; exact ⟨rfl, S6.out.2.2.2.2.2.2.2⟩)
          | (have e := (Key.out a0 (by omega) (by omega) (by omega) (by omega)).2.2.2.1 (by constructor <;> omega); rw [e]; exact ⟨rfl, S6.out.2.2.2.2.2.2.2⟩)
          | (have e := (Key.out n (by omega) (by omega) (by omega) (by omega)).2.2.2.1 (by constructor <;> omega); rw [e]; exact ⟨rfl, S6.out.2.2.2.2.2.2.2⟩)
    have S3d : SSd w pa fa la pb fb lb wr.drew := SS.drew S3'.out
    have S3e : SSd w pa fa la pb fb lb wr := S3'.out
    go_region_held3 (SS w pa fa la pb fb lb) ((refine SSd.out ?_; with_reducible (first | exact S5 | exact SSd.alloc (S5) _ | exact SSd.alloc (SSd.alloc (S5) _) _ | exact SSd.setCell (SSd.setCell (S5) (by omega) _) (by omega) _ | exact SSd.alloc (SSd.setCell (SSd.setCell (S5) (by omega) _) (by omega) _) _ | exact SSd.setCell (SSd.setCell (SSd.setCell (SSd.setCell (S5) (by omega) _) (by omega) _) (by omega) _) (by omega) _ | exact SSd.setCell (SSd.setCell (SSd.alloc (S5) _) (by omega) _) (by omega) _ | exact S4 | exact SSd.alloc (S4) _ | exact SSd.alloc (SSd.alloc (S4) _) _ | exact S3d | exact SSd.drew (SSd.alloc S3e _) | exact SSd.drew (SSd.alloc (SSd.alloc S3e _) _))))
      (first
        | (go_at_call_of 49 (Value.agg #[Value.int IntKind.i64 pa, Value.int IntKind.i64 fa, Value.int IntKind.i64 la]); refine (Fa.out _).mono ?_; rintro e w4 ⟨rfl, h4⟩; have S4 : SSd w pa fa la pb fb lb w4 := (by with_reducible first | exact SSd.below S3d h4 | exact SSd.below (SSd.drew (SSd.alloc S3e _)) h4 | exact SSd.below (SSd.drew (SSd.alloc (SSd.alloc S3e _) _)) h4); obtain ⟨hc4, hf4⟩ := bcell h4; have hz4 := h4.size; (try simp only [World.size_alloc, World.size_drew, Nat.add_assoc] at hz4); have z4 := S4.size; (try have p4 : Two wr.heap.size (.int .i64 0) (.int .i64 0) w4 := Two.below (by with_reducible first | exact Two.drew (Two.new 45) | exact Two.drew (Two.alloc (Two.new 45) _)) h4); (try have p4' : Two (wr.heap.size + 1) (.int .i64 0) (.int .i64 0) w4 := Two.below (by with_reducible exact Two.drew (Two.new1 _ 45)) h4); (try have hq4 : wr.heap.size < w4.heap.size := by omega); (try have hr4 : wr.heap.size + 1 < w4.heap.size := by omega); clear h4)
        | (go_at_call_of 49 (Value.agg #[Value.int IntKind.i64 pb, Value.int IntKind.i64 fb, Value.int IntKind.i64 lb]); refine (Fb.out _).mono ?_; rintro e w5 ⟨rfl, h5⟩; have S5 : SSd w pa fa la pb fb lb w5 := (by with_reducible first | exact SSd.below S4 h5 | exact SSd.below (SSd.alloc S4 _) h5 | exact SSd.below (SSd.alloc (SSd.alloc S4 _) _) h5); obtain ⟨hc5, hf5⟩ := bcell h5; have hz5 := h5.size; (try simp only [World.size_alloc, Nat.add_assoc] at hz5); have z5 := S5.size; (try have p5 : Two wr.heap.size (.int .i64 0) (.int .i64 0) w5 := Two.below (by with_reducible first | exact p4 | exact Two.alloc p4 _ | exact Two.alloc (Two.alloc p4 _) _) h5); (try have p5' : Two (wr.heap.size + 1) (.int .i64 0) (.int .i64 0) w5 := Two.below (by with_reducible exact p4') h5); (try have p5a : Two w4.heap.size (.int .i64 0) (.int .i64 0) w5 := Two.below (by with_reducible first | exact Two.new 45 | exact Two.alloc (Two.new 45) _) h5); (try have p5b : Two (w4.heap.size + 1) (.int .i64 0) (.int .i64 0) w5 := Two.below (by with_reducible exact Two.new1 _ 45) h5); (try have hq5 : wr.heap.size < w5.heap.size := by omega); (try have hr5 : wr.heap.size + 1 < w5.heap.size := by omega); (try have hs5 : w4.heap.size < w5.heap.size := by omega); (try have ht5 : w4.heap.size + 1 < w5.heap.size := by omega); clear h5))
    all_goals go_wp2_with fail
    all_goals go_meet
    all_goals
      refine ⟨_, _, rfl, rfl, rfl, ?_, ?_, ?_⟩
      · with_reducible (first | exact Two.alloc (Two.new 45) _ | exact Two.new1 _ 45 | exact Two.newS _ _ _ _ 45 | exact Two.alloc (Two.set p5 _ _) _ | exact Two.other (Two.other (Two.set p5 _ _) (by omega) _) (by omega) _ | exact Two.set (Two.other (Two.other p5 (by omega) _) (by omega) _) _ _ | exact Two.alloc (Two.set p5' _ _) _ | exact Two.other (Two.other (Two.set p5' _ _) (by omega) _) (by omega) _ | exact Two.set (Two.other (Two.other p5' (by omega) _) (by omega) _) _ _ | exact Two.alloc (Two.set p5a _ _) _ | exact Two.other (Two.other (Two.set p5a _ _) (by omega) _) (by omega) _ | exact Two.set (Two.other (Two.other p5a (by omega) _) (by omega) _) _ _ | exact Two.alloc (Two.set p5b _ _) _ | exact Two.other (Two.other (Two.set p5b _ _) (by omega) _) (by omega) _ | exact Two.set (Two.other (Two.other p5b (by omega) _) (by omega) _) _ _)
      · with_reducible (first | exact Two.alloc (Two.new 45) _ | exact Two.new1 _ 45 | exact Two.newS _ _ _ _ 45 | exact Two.alloc (Two.set p5 _ _) _ | exact Two.other (Two.other (Two.set p5 _ _) (by omega) _) (by omega) _ | exact Two.set (Two.other (Two.other p5 (by omega) _) (by omega) _) _ _ | exact Two.alloc (Two.set p5' _ _) _ | exact Two.other (Two.other (Two.set p5' _ _) (by omega) _) (by omega) _ | exact Two.set (Two.other (Two.other p5' (by omega) _) (by omega) _) _ _ | exact Two.alloc (Two.set p5a _ _) _ | exact Two.other (Two.other (Two.set p5a _ _) (by omega) _) (by omega) _ | exact Two.set (Two.other (Two.other p5a (by omega) _) (by omega) _) _ _ | exact Two.alloc (Two.set p5b _ _) _ | exact Two.other (Two.other (Two.set p5b _ _) (by omega) _) (by omega) _ | exact Two.set (Two.other (Two.other p5b (by omega) _) (by omega) _) _ _)
      · with_reducible (first | exact SSd.alloc (SSd.alloc (S5) _) _ | exact SSd.alloc (SSd.setCell (SSd.setCell (S5) (by omega) _) (by omega) _) _ | exact SSd.setCell (SSd.setCell (SSd.setCell (SSd.setCell (S5) (by omega) _) (by omega) _) (by omega) _) (by omega) _)
end Go.Proofs.YtcdodfehnkgjdaaGreatDoor
