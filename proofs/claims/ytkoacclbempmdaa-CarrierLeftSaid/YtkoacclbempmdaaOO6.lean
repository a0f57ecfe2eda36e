/- Contract of paths. -/
import Derived.Test.YtkoacclbempmdaaOO5
namespace Go.Proofs.Ytkoacclbempmdaa
open Go.RowKit Go.Maps
attribute [local go_sem] Oper.semAt_some

/-- The array of the feeders' IDs, in the block g. -/
def FeedA (g : Nat) (s : List Pl) (W : World) : Prop := ∀ c, c < 16 → W.cell? ⟨g, c, none⟩ = some (.int .i64 (feedS s c)) ∧ W.frozen? ⟨g, c, none⟩ = false
theorem FeedA.grown {g : Nat} {s : List Pl} {W W' : World} {bs : List Nat} (h : FeedA g s W) (hg : GrownL bs W W') (hn : g ∉ bs) : FeedA g s W' := fun c hc => by
 obtain ⟨h1, h2⟩ := h c hc
 exact ⟨hg.cell h1 hn, (World.frozen?_of_block (hg.block _ (World.block_lt_of_cell? _ _ h1) hn)).trans h2⟩
theorem FeedA.pass {g : Nat} {s : List Pl} {W : World} {p : Pl} (h : FeedA g s W) (hp : p.o.into < 0) : FeedA g (s ++ [p]) W := fun c hc => by
 obtain ⟨h1, h2⟩ := h c hc
 rw [feedS_other (by omega)]
 exact ⟨h1, h2⟩
theorem FeedA.set {ws : Wk} (hw : WOk ws) {g n : Nat} {W : World} {p : Pl} {c : Nat} (h : FeedA g ((allP ws).take n) W) (hpn : (allP ws)[n]? = some p) (hc : c < 16) (hp : p.o.into = c) : FeedA g ((allP ws).take n ++ [p]) (W.setCell ⟨g, c, none⟩ (.int .i64 p.o.id)) := fun d hd => by
 obtain ⟨h1, h2⟩ := h d hd
 refine ⟨?_, (World.frozen?_setCell _ _ _ _).trans h2⟩
 by_cases e : d = c
 ·subst e
  rw [feedS_same hw hpn hp]
  exact World.cell?_setCell_same' _ _ _ (by rw [h1]; rfl)
 ·rw [feedS_other (by omega), World.cell?_setCell_other _ ⟨g, c, none⟩ ⟨g, d, none⟩ _ (by simp <;> omega)]
  exact h1
/-- What the loop of paths keeps. -/
structure PaI (ws : Wk) (w : World) (v : Value) (s : List Pl) (W : World) : Prop where
 m : W.cell? ⟨w.heap.size + 1 + 1, 0, none⟩ = some (.map (some (w.heap.size + 1)))
 pm : PathsM ws (w.heap.size + 1) (w.heap.size + 7) s.length s W
 fd : FeedA (w.heap.size + 3) s W
 kp : KP w (w.heap.size + 4) v W
theorem PaI.grown {ws : Wk} {w W W' : World} {v : Value} {bs : List Nat} {s : List Pl} (h : PaI ws w v s W) (hg : GrownL bs W W') (hn : ∀ b ∈ bs, w.heap.size + 5 ≤ b) (hr : ∀ k ∈ bs, k < w.heap.size + 7 ∨ W.heap.size ≤ k) : PaI ws w v s W' := by
 have nb : ∀ k, k ≤ w.heap.size + 4 → k ∉ bs := fun k hk hm => by have := hn k hm; omega
 exact ⟨hg.cell h.m (nb _ (by show w.heap.size + 2 ≤ _; omega)), h.pm.grown hg (nb _ (by omega)) hr, h.fd.grown hg (nb _ (by omega)), ⟨h.kp.1.trans (hg.below (fun b hb => by have := hn b hb; omega) h.kp.1.size), hg.cell h.kp.2 (nb _ (Nat.le_refl _))⟩⟩

section
variable {ops : Array Oper} {o : Oper} {a : Act} {w : World} {K : Act → World → Prop} {Q : Exit → Act → World → Prop} {E : Prop}
/-- One number is appended to a list of one's own, as a step of a region that draws. -/
theorem step_app1 (hg : o.guard = none) (s x : Operand) (hop : o.op = Op.call { callee := Callee.builtin Builtin.append, args := #[s, x], argTypes := #[25, 25] })
  (base : Nat) (v : Value) (xs : List Int) (hs : a.eval s = v) (hown : OwnG encI 1 3 base v xs w) (hxs : xs.length ≤ 1000000) (b : Nat) (y : Int) (hx : a.eval x = .slice (some ⟨b, 0, none⟩) 1 1) (hc : w.cell? ⟨b, 0, none⟩ = some (.int .i64 y)) (hb : base ≤ w.heap.size)
  (hK : ∀ v' w', OwnG encI 1 3 base v' (xs ++ [y]) w' → GrownL v.ownBlock.toList w w' → K (a.put o.dst v') w') :
  if Region.wanted o (yielded ops a.tmps) = true then Oper.wp Try.prog o a w K Q else E := by
 obtain ⟨i0, hz0, hj0, hj1, hj2⟩ := info_parts infoInt
 have hw : Region.wanted o (yielded ops a.tmps) = true := by simp [Region.wanted, hg]
 rw [if_pos hw]
 obtain ⟨v', w', hrun, r1, r2, _⟩ := run_append_own_at (P := Try.prog) w base 25 o.type 3 i0 (.int .i64 0) 1 8 Try.underlying25 hz0 hj0 hj1 hj2 rfl (by decide) v xs.length (xs.flatMap encI) hown ⟨b, 0, none⟩ 1 1 [.int .i64 y] rfl (fun j u hj => by
  match j, hj with
  | 0, hj => simp at hj; subst hj; simpa [Addr.add] using hc) (fun u hu => by simp at hu; subst hu; rfl) (by unfold maxLen; omega) (by omega) hb
 unfold Oper.wp
 simp [execOp, hop, resolve, invoke, builtin, hs, hx, hrun, Result.andThen]
 refine hK v' w' ?_ (GrownL.of_row r2)
 unfold OwnG
 rw [List.flatMap_append, List.length_append]
 exact r1
/-- The next path is stored. -/
theorem step_path {ws : Wk} (hwk : WOk ws) (hg : o.guard = none) (m x v : Operand) (hop : o.op = Op.mapUpdate 156 m x v) {b base n k : Nat} {p : Pl} (h : PathsM ws b base n ((allP ws).take k) w) (hn : n ≤ 1000) (hp : (allP ws)[k]? = some p) (hb : b < base)
  (hm : a.eval m = .map (some b)) (hx : a.eval x = .int .i64 p.o.id) {u : Value} (hv : a.eval v = u) (ho : OwnG encI 1 3 base u (pathV ws k) w)
  (hK : ∀ w', PathsM ws b base (n + 1) ((allP ws).take k ++ [p]) w' → GrownL [b] w w' → K (a.put o.dst undef) w') :
  if Region.wanted o (yielded ops a.tmps) = true then Oper.wp Try.prog o a w K Q else E := by
 have hw : Region.wanted o (yielded ops a.tmps) = true := by simp [Region.wanted, hg]
 rw [if_pos hw]
 obtain ⟨D, h1, h2⟩ := h
 have hwf : (Lit.int .i64 p.o.id).wf = true := by
  have := hwk.ou hp
  have h3 := this.i0
  have h4 := this.i1
  have m0 : IntKind.i64.min = -9223372036854775808 := rfl
  have m1 : IntKind.i64.max = 9223372036854775807 := rfl
  simp only [Lit.wf, m0, m1, Bool.and_eq_true, decide_eq_true_eq]
  omega
 obtain ⟨w', hrun, r1, r2⟩ := h1.update keyI Try.underlying156 (by unfold maxLen; omega) (keyOf_int_mk Try.underlying3 hwf) (hdR_own ho)
 have G := GrownL.of_row r2
 unfold Oper.wp
 simp [execOp, hop, hm, hx, hv, hrun, Result.andThen]
 refine hK w' ⟨_, r1, fun id => ?_⟩ G
 by_cases e : p.o.id = id
 ·subst e
  refine ⟨u, ?_, by rw [byIdS_same hwk hp]; exact ho.grown G (fun g hgu hm => by have := ho.lt g hgu; simp at hm; omega)⟩
  rw [atKey_put_same h1.isMap (show WideAt.IsKeyLit (.int .i64 _) from trivial)]
 ·obtain ⟨u', hu, hou⟩ := h2 id
  refine ⟨u', ?_, by rw [byIdS_other e]; exact hou.grown G (fun g hgv hm => by have := hou.lt g hgv; simp at hm; omega)⟩
  rw [atKey_put_other (by simpa using Ne.symm e)]
  exact hu
end
theorem feedS_wf {ws : Wk} (hw : WOk ws) (n c : Nat) : (Lit.int .i64 (feedS ((allP ws).take n) c)).wf = true := by
 have h : 0 ≤ feedS ((allP ws).take n) c ∧ feedS ((allP ws).take n) c ≤ 1099511627776 := by
  unfold feedS
  split
  ·rename_i p h
   obtain ⟨j, hj, hq⟩ := mem_take_at (List.mem_of_find?_eq_some h)
   have := hw.ou hq
   have h3 := this.i0
   have h4 := this.i1
   omega
  ·omega
 have m0 : IntKind.i64.min = -9223372036854775808 := rfl
 have m1 : IntKind.i64.max = 9223372036854775807 := rfl
 simp only [Lit.wf, m0, m1, Bool.and_eq_true, decide_eq_true_eq]
 omega
/-- The next state of the loop of paths. -/
theorem PaI.next {ws : Wk} (hwk : WOk ws) {w W3 W5 : World} {v : Value} {n : Nat} {p : Pl} (h : PaI ws w v ((allP ws).take n) W3) (hp : (allP ws)[n]? = some p) (hg : GrownL [w.heap.size + 1] W3 W5) (hm : PathsM ws (w.heap.size + 1) (w.heap.size + 7) (n + 1) ((allP ws).take n ++ [p]) W5) :
  (p.o.into < 0 → PaI ws w v ((allP ws).take n ++ [p]) W5) ∧ (∀ k : Nat, k < 16 → p.o.into = k → PaI ws w v ((allP ws).take n ++ [p]) (W5.setCell ⟨w.heap.size + 1 + 1 + 1, k, none⟩ (.int .i64 p.o.id))) := by
 have nb : ∀ k, k ≠ w.heap.size + 1 → k ∉ [w.heap.size + 1] := fun k hk hm => hk (by simpa using hm)
 have hl : ((allP ws).take n ++ [p]).length = n + 1 := by
  have := lt_total hp
  rw [← allP_len] at this
  rw [List.length_append, List.length_take]
  simp
  omega
 have b5 := h.kp.1.trans (hg.below (fun b hb => by simp at hb; omega) h.kp.1.size)
 have c5 := hg.cell h.m (nb _ (by simp))
 have k5 := hg.cell h.kp.2 (nb _ (by simp))
 have f5 := h.fd.grown hg (nb _ (by omega))
 refine ⟨fun hi => ⟨c5, by rw [hl]; exact hm, f5.pass hi, b5, k5⟩, fun k hk hi => ?_⟩
 have gs : GrownL [w.heap.size + 3] W5 (W5.setCell ⟨w.heap.size + 1 + 1 + 1, k, none⟩ (.int .i64 p.o.id)) := GrownL.set _ _ _ (by simp)
 have ns : ∀ k, k ≠ w.heap.size + 3 → k ∉ [w.heap.size + 3] := fun k hk hm => hk (by simpa using hm)
 exact ⟨gs.cell c5 (ns _ (by simp)), by rw [hl]; exact hm.grown gs (ns _ (by omega)) (fun k hk => by simp at hk; omega), f5.set hwk hp hk hi, b5.trans (gs.below (fun b hb => by simp at hb; omega) b5.size), gs.cell k5 (ns _ (by simp))⟩

set_option maxHeartbeats 16000000 in
set_option maxRecDepth 1000000 in
theorem paths_any (A : Option Addr) (c : Nat) (ws : Wk) (w : World) (h : RK w.heap.size (.slice A ws.length c) ws w) (hw : WOk ws) :
  Calls Try.prog 108 #[.agg #[.slice A ws.length c]] w fun e w' => e = .returned (.map (some (w.heap.size + 1))) ∧ PathsM ws (w.heap.size + 1) (w.heap.size + 7) (total ws) (allP ws) w' ∧ Below w.heap.size w w' := by
 obtain ⟨i0, hz0, hj0, hj1, hj2⟩ := info_parts infoInt
 have H := Lib.hid h
 have HW := Lib.hid hw
 have hmm := @run_makeMap Try.prog
 clear h hw
 refine (callsIn_wide (n := 3)).1 ?_
 refine callsIn_of_wp_marks Try.func108 rfl trivial ?_ rfl
 simp only [Try.ntmps108, List.size_toArray, List.length_cons, List.length_nil, Nat.reduceAdd, Nat.reduceSub, Array.replicate_succ, Array.replicate_zero, List.push_toArray, List.append_toArray, List.nil_append, List.cons_append]
 gi_wp2_with fail
 refine ⟨trivial, (callsIn_wide.2 (places_any A ws.length c _)).mono ?_⟩
 rintro e w1 ⟨rfl, rfl⟩
 obtain ⟨W0, hW0⟩ : ∃ W0, ((((w.alloc (.cells #[.slice A ws.length c] 24)).alloc (.map #[] 0)).alloc (.cells #[.map (some (w.heap.size + 1))] 156)).alloc (.cells #[.int .i64 0, .int .i64 0, .int .i64 0, .int .i64 0, .int .i64 0, .int .i64 0, .int .i64 0, .int .i64 0, .int .i64 0, .int .i64 0, .int .i64 0, .int .i64 0, .int .i64 0, .int .i64 0, .int .i64 0, .int .i64 0] 121)).alloc (.cells #[.slice A ws.length c] 24) = W0 := ⟨_, rfl⟩
 have hz0 : W0.heap.size = w.heap.size + 5 := by rw [← hW0]; simp
 have hb2 : Below w.heap.size w W0 := by rw [← hW0]; exact (((((Below.refl _ _).alloc (Nat.le_refl _) _).alloc (by simp) _).alloc (by simp; omega) _).alloc (by simp; omega) _).alloc (by simp; omega) _
 have I0 : Hid (PaI ws w (.slice A ws.length c) [] W0) := Lib.hid (by
  refine ⟨by rw [← hW0]; simp [go_sem], ?_, fun d hd => ?_, hb2, by rw [← hW0]; simp [go_sem]⟩
  ·have g : GrownL [] ((w.alloc (.cells #[.slice A ws.length c] 24)).alloc (.map #[] 0)) W0 := by
    rw [← hW0]; exact GrownL.of_below ((((Below.refl _ _).alloc (Nat.le_refl _) _).alloc (by simp) _).alloc (by simp) _)
   have := (PathsM.start ws (w.alloc (.cells #[.slice A ws.length c] 24)) (w.heap.size + 7)).grown g (by simp) (by simp)
   simpa using this
  ·rw [← hW0]
   have : d = 0 ∨ d = 1 ∨ d = 2 ∨ d = 3 ∨ d = 4 ∨ d = 5 ∨ d = 6 ∨ d = 7 ∨ d = 8 ∨ d = 9 ∨ d = 10 ∨ d = 11 ∨ d = 12 ∨ d = 13 ∨ d = 14 ∨ d = 15 := by omega
   rcases this with rfl | rfl | rfl | rfl | rfl | rfl | rfl | rfl | rfl | rfl | rfl | rfl | rfl | rfl | rfl | rfl <;> exact ⟨by simp [go_sem, feedS], by simp [go_sem]⟩)
 have HZ := Lib.hid hz0
 clear hz0 hb2
 gi_wp2_with fail
 try rw [hW0]
 refine wpIn_rangeP (gf := 132) (lb := #[.pointer (some ⟨w.heap.size + 1 + 1 + 1 + 1, 0, none⟩)]) rfl enters_places1
  (placesP_seq w W0 (w.heap.size + 4) A ws.length c ws H.out (by have := HW.out.tot; omega) (by have := HW.out.len; omega)) (Below.refl _ _) (fun _ => rfl)
  (PaI ws w (.slice A ws.length c)) (fun _ _ _ => False) (fun _ _ h => h.kp) ?h0 ?hI (fun _ _ _ _ h _ => h) ?round ?done (fun _ _ _ _ h _ => h.elim)
 case h0 =>
  intro W' hb hsz
  exact I0.out.grown (bs := []) (GrownL.of_below hb) (by simp) (by simp)
 case hI =>
  rintro s W1 W2 hi hg
  refine hi.grown hg (fun b hb => ?_) (fun b hb => ?_) <;> (have := HZ.out; simp at hb; omega)
 case round =>
  rintro pre x W hi hsz hsp
  have HI := Lib.hid hi
  have HSP := Lib.hid (sp_next hsp)
  clear hi hsp
  obtain ⟨xa, xc, xn, x⟩ := x
  dsimp only [encP]
  gi_wp2_with fail
  refine ⟨Keeps.of_below (((Below.refl _ _).alloc (Nat.le_refl _) _).alloc (by simp) _), fun W2 hg2 hl2 => ?_⟩
  obtain ⟨hP, hO, hg, hz2⟩ := po_cells hg2 (by have := HZ.out; omega)
  have HZW : Hid (w.heap.size + 7 ≤ W.heap.size) := Lib.hid (by have := HZ.out; omega)
  have I2 := Lib.hid (HI.out.grown hg (fun b hb => by have := HZ.out; simp at hb; omega) (fun b hb => by have := HZ.out; simp at hb; omega))
  have PP := Lib.hid hP
  have OO := Lib.hid hO
  have Z2 := Lib.hid hz2
  clear HI hP hO hg hz2 hg2 hl2 hsz
  obtain ⟨n, hxn, hpre, hnl, hnt⟩ := HSP.out
  subst hpre
  have hin := HW.out.into (List.mem_of_getElem? hxn)
  have hc16 : xc < 16 := by
   obtain ⟨-, os, h1, -, -⟩ := allP_inv hxn
   have h9 : xc < ws.length := (List.getElem?_eq_some_iff.1 h1).1
   have := HW.out.len
   omega
  obtain ⟨W3, hW3⟩ : ∃ W3, W2.drew = W3 := ⟨_, rfl⟩
  have g23 : GrownL [] W2 W3 := by rw [← hW3]; exact (GrownL.refl _ _).drew
  have I3 := Lib.hid (I2.out.grown g23 (by simp) (by simp))
  have PP3 := Lib.hid (PP.out.grown g23 (by simp))
  have OO3 := Lib.hid (OO.out.grown g23 (by simp))
  have Z3 : Hid (W.heap.size + 2 ≤ W3.heap.size) := Lib.hid (Nat.le_trans Z2.out g23.size)
  have hfid : (Lit.int .i64 (feedS (List.take n (allP ws)) xc)).wf = true := feedS_wf HW.out n xc
  obtain ⟨u, hu, hlook⟩ := I3.out.pm.look (feedS (List.take n (allP ws)) xc) hfid
  have hpn := path_next HW.out hxn
  simp only at hpn
  have hxl := byIdS_len HW.out n (feedS (List.take n (allP ws)) xc)
  have x0 := I3.out.m
  have xo := OO3.out.id
  have xp := PP3.out.c
  have xf := (I3.out.fd xc hc16).1
  have hk0 : (xc : Int) < 16 := by omega
  have hk1 : (0 : Int) ≤ (xc : Int) := by omega
  simp only at xp
  obtain ⟨f, hf⟩ : ∃ f, feedS (List.take n (allP ws)) xc = f := ⟨_, rfl⟩
  rw [hf] at xf hu hlook hpn hxl
  obtain ⟨xs, hxs⟩ : ∃ xs, byIdS ws (List.take n (allP ws)) f = xs := ⟨_, rfl⟩
  rw [hxs] at hu hpn hxl
  have HU := Lib.hid hu
  have HL := Lib.hid hlook
  have HXN := Lib.hid hxn
  have HPN := Lib.hid hpn
  have HNL := Lib.hid hnl
  have HNT := Lib.hid hnt
  have HIN := Lib.hid hin
  have n0 : w.heap.size + 1 + 1 ∉ [w.heap.size + 1] := by simp <;> omega
  have n1 : W.heap.size + 1 ∉ [w.heap.size + 1] := by have := HZW.out; simp; omega
  have n2 : W.heap.size ∉ [w.heap.size + 1] := by have := HZW.out; simp; omega
  have n3 : w.heap.size + 1 + 1 + 1 ∉ [w.heap.size + 1] := by simp <;> omega
  have xf : W3.cell? ⟨w.heap.size + 1 + 1 + 1, xc, none⟩ = some (.int .i64 f) := xf
  clear hxn hnl hnt hu hlook hf hfid hin hpn hxs
  obtain ⟨Au, cu, rfl, -⟩ := HU.out.form
  have HRR : Hid (∀ W', GrownL [w.heap.size + 1] W3 W' → RR encI W'.heap.size (.slice Au xs.length cu) xs W') := Lib.hid fun W' hg => (HU.out.rr EI (by omega)).grown hg (fun g hgv hm => by have := HU.out.lt g hgv; simp at hm; omega)
  have HXL := Lib.hid hxl
  have FIN : Hid (∀ (bs : Nat) (v' v'' : Value) (Wa Wb W4 W5 : World), W3.heap.size ≤ bs → OwnG encI 1 3 bs v' xs Wa → GrownL [] W3 Wa → GrownL v'.ownBlock.toList Wa W4 → OwnG encI 1 3 bs v'' (xs ++ [x.id]) W4 → OwnG encI 1 3 (w.heap.size + 7) v'' (pathV ws n) W4 ∧ PathsM ws (w.heap.size + 1) (w.heap.size + 7) n ((allP ws).take n) W4 ∧ GrownL [w.heap.size + 1] W3 W4) := Lib.hid (by
   intro bs v' v'' Wa Wb W4 W5 hbs ho g1 g2 ho2
   have := HZW.out
   have := Z3.out
   have G : GrownL v'.ownBlock.toList W3 W4 := (g1.mono (by simp)).trans g2
   have hge : ∀ b ∈ v'.ownBlock.toList, W3.heap.size ≤ b := fun b hb => Nat.le_trans hbs (ho.lt b (by simpa using hb)).1
   refine ⟨by rw [HPN.out]; exact ho2.low (by omega), ?_, ⟨G.os, G.tape, G.output, G.size, fun k hk _ => G.block k hk (fun hm => by have := hge k hm; omega)⟩⟩
   have h3 := I3.out.pm
   rw [← HNL.out] at h3
   exact h3.grown G (fun hm => by have := hge _ hm; omega) (fun k hk => .inr (hge k hk)))
  gi_wp2_with fail
  refine wpIn_region_held (open_round _) (S := GrownL [w.heap.size + 1] W2.drew) (by kernel_rfl) (by kernel_rfl) (GrownL.refl _ _) (fun J0 => ?_)
  rw [hW3] at J0 ⊢
  have KK1 := Lib.hid fun (w_ : World) (hSw : GrownL _ _ w_) => And.intro (hSw.cell x0 n0) (And.intro (hSw.cell xo n1) (And.intro (hSw.cell xp n2) (hSw.cell xf n3)))
  refine tk KK1 0 12 J0 ?_
  try simp only [aS]
  refine tk KK1 1 13 J0 ?_
  try simp only [aS]
  refine tk KK1 2 14 J0 ?_
  try simp only [aS]
  refine tk KK1 3 15 J0 ?_
  try simp only [aS]
  refine tk KK1 4 16 J0 ?_
  try simp only [aS]
  refine tk KK1 5 17 J0 ?_
  try simp only [aS]
  refine tk KK1 6 18 J0 ?_
  try simp only [aS]
  refine tk KK1 7 19 J0 ?_
  try simp only [aS]
  refine tk KK1 10 22 J0 ?_
  try simp only [aS]
  refine tk KK1 11 23 J0 ?_
  try simp only [aS]
  refine wpAnyH_ready (rs := [8, 12]) (by kernel_rfl) (by simp) ?_
  refine AllReadyH.cons rfl (fun K hK => ?_) (AllReadyH.cons rfl (fun K hK => ?_) AllReadyH.nil)
  ·have r8 := HL.out W3 (rfl)
   go_simp
   refine hK.out _ _ (J0) (fun _ => ?_)
   clear hK K r8
   try simp only [aS]
   refine wpAnyH_ready (rs := [9, 12]) (by kernel_rfl) (by simp) ?_
   refine AllReadyH.cons rfl (fun K hK => ?_) (AllReadyH.cons rfl (fun K hK => ?_) AllReadyH.nil)
   ·go_simp
    refine (cloneI_any _ xs W3 (HRR.out _ (J0)) (by have := HXL.out; omega)).mono ?_
    rintro e wq ⟨vq, rfl, hvq, bq⟩
    have J4 : GrownL [w.heap.size + 1] W3 wq := (J0).trans (GrownL.of_below bq)
    have HVQ := Lib.hid hvq
    obtain ⟨Aq, cq, rfl, -⟩ := hvq.form
    clear hvq
    refine hK.out _ _ J4 (fun _ => ?_)
    clear hK K
    try simp only [aS]
    refine wpAnyH_ready (rs := [12]) (by kernel_rfl) (by simp) ?_
    refine AllReadyH.cons rfl (fun K hK => ?_) AllReadyH.nil
    go_simp
    have J3 : GrownL [w.heap.size + 1] W3 (wq.alloc (.cells #[.int .i64 x.id] 3)) := (J4).trans (GrownL.of_below ((Below.refl _ _).alloc (Nat.le_refl _) _))
    have cn : (wq.alloc (.cells #[.int .i64 x.id] 3)).cell? ⟨wq.heap.size, 0, none⟩ = some (.int .i64 x.id) := by simp [go_sem]
    refine hK.out _ _ J3 (fun _ => ?_)
    clear hK K
    try simp only [aS]
    refine wpAnyH_ready (rs := [13]) (by kernel_rfl) (by simp) ?_
    refine AllReadyH.cons rfl (fun K hK => ?_) AllReadyH.nil
    have GQ : Hid (GrownL [] W3 (wq.alloc (.cells #[.int .i64 x.id] 3))) := Lib.hid (by
     exact (GrownL.of_below bq).trans (GrownL.of_below ((Below.refl _ _).alloc (Nat.le_refl _) _)))
    have OQ : Hid (OwnG encI 1 3 W3.heap.size _ xs (wq.alloc (.cells #[.int .i64 x.id] 3))) := Lib.hid (HVQ.out.below ((Below.refl _ _).alloc (Nat.le_refl _) _))
    have BQ : Hid (W3.heap.size ≤ (wq.alloc (.cells #[.int .i64 x.id] 3)).heap.size) := Lib.hid (by have := bq.size; simp at this ⊢; omega)
    have B3 : Hid (W3.heap.size ≤ W3.heap.size) := Lib.hid (by simp)
    refine step_app1 rfl _ _ rfl W3.heap.size _ xs rfl OQ.out (by have := HXL.out; omega) wq.heap.size x.id rfl cn BQ.out (fun v2 w4 ho4 g4 => ?_)
    obtain ⟨f1, f2, f3⟩ := FIN.out _ _ _ (wq.alloc (.cells #[.int .i64 x.id] 3)) w4 w4 w4 B3.out OQ.out GQ.out g4 ho4
    obtain ⟨A4, c4, rfl, -⟩ := f1.form
    have F1 := Lib.hid f1
    have F2 := Lib.hid f2
    have F3 := Lib.hid f3
    clear f1 f2 f3 ho4 g4 bq
    try go_simp
    refine hK.out _ _ F3.out (fun _ => ?_)
    clear hK K
    try simp only [aS]
    refine wpAnyH_ready (rs := [14]) (by kernel_rfl) (by simp) ?_
    refine AllReadyH.cons rfl (fun K hK => ?_) AllReadyH.nil
    refine step_path HW.out rfl _ _ _ rfl F2.out (by have := HNT.out; have := HW.out.tot; omega) HXN.out (by omega) rfl rfl rfl F1.out (fun w5 h5 g5 => ?_)
    have N5 := Lib.hid (PaI.next HW.out I3.out HXN.out (F3.out.trans g5) h5)
    have O5 := (OO3.out.grown (F3.out.trans g5) n1).id
    have O6 := (OO3.out.grown (F3.out.trans g5) n1).into
    have K5 : Hid (Keeps [W0.heap.size, W0.heap.size + 1] W2 w5) := Lib.hid (Keeps.of_grown ((g23.mono (by simp)).trans (F3.out.trans g5)) (fun o ho hm => by have := HZ.out; simp at ho hm; omega))
    have J5 := F3.out.trans g5
    have FD5 : Hid (FeedA (w.heap.size + 1 + 1 + 1) (List.take n (allP ws)) w5) := Lib.hid (I3.out.fd.grown J5 n3)
    clear h5 g5
    try go_simp
    refine hK.out _ _ J5 (fun _ => ?_)
    clear hK K J5
    try simp only [aS]
    refine heldN_done (by kernel_rfl) ?_ _
    clear J0
    rcases HIN.out with hin | ⟨k, hin, -, -, hk⟩
    ·have hin : x.into = _ := hin
     rw [hin] at O6
     gi_wp2_with fail
     exact ⟨K5.out, N5.out.1 (by show x.into < 0; omega)⟩
    ·have hin : x.into = _ := hin
     rw [hin] at O6
     obtain ⟨e1, e2⟩ := FD5.out k hk
     have hk2 : (k : Int) < 16 := by omega
     have hk3 : (0 : Int) ≤ (k : Int) := by omega
     obtain ⟨fk, hfk⟩ : ∃ fk, feedS (List.take n (allP ws)) k = fk := ⟨_, rfl⟩
     rw [hfk] at e1
     clear hfk
     gi_wp2_with fail
     exact ⟨K5.out.trans (Keeps.of_grown (GrownL.set (bs := [w.heap.size + 1 + 1 + 1]) _ _ _ (by simp)) (fun o ho hm => by have := HZ.out; simp at ho hm; omega)), N5.out.2 k hk hin⟩
   ·go_simp
    have J4 : GrownL [w.heap.size + 1] W3 (W3.alloc (.cells #[.int .i64 x.id] 3)) := (J0).trans (GrownL.of_below ((Below.refl _ _).alloc (Nat.le_refl _) _))
    have cn : (W3.alloc (.cells #[.int .i64 x.id] 3)).cell? ⟨W3.heap.size, 0, none⟩ = some (.int .i64 x.id) := by simp [go_sem]
    refine hK.out _ _ J4 (fun _ => ?_)
    clear hK K
    try simp only [aS]
    refine wpAnyH_ready (rs := [9]) (by kernel_rfl) (by simp) ?_
    refine AllReadyH.cons rfl (fun K hK => ?_) AllReadyH.nil
    go_simp
    refine (cloneI_any _ xs (W3.alloc (.cells #[.int .i64 x.id] 3)) (HRR.out _ (J4)) (by have := HXL.out; omega)).mono ?_
    rintro e wq ⟨vq, rfl, hvq, bq⟩
    have J3 : GrownL [w.heap.size + 1] W3 wq := (J4).trans (GrownL.of_below bq)
    have cnq := (bq.cell (p := ⟨W3.heap.size, 0, none⟩) (by simp)).trans cn
    have HVQ := Lib.hid hvq
    obtain ⟨Aq, cq, rfl, -⟩ := hvq.form
    clear hvq
    refine hK.out _ _ J3 (fun _ => ?_)
    clear hK K
    try simp only [aS]
    refine wpAnyH_ready (rs := [13]) (by kernel_rfl) (by simp) ?_
    refine AllReadyH.cons rfl (fun K hK => ?_) AllReadyH.nil
    have GQ : Hid (GrownL [] W3 wq) := Lib.hid (by
     exact (GrownL.of_below ((Below.refl _ _).alloc (Nat.le_refl _) _)).trans (GrownL.of_below bq))
    have OQ : Hid (OwnG encI 1 3 (W3.alloc (.cells #[.int .i64 x.id] 3)).heap.size _ xs wq) := Lib.hid (HVQ.out)
    have BQ : Hid ((W3.alloc (.cells #[.int .i64 x.id] 3)).heap.size ≤ wq.heap.size) := Lib.hid (by have := bq.size; simp at this ⊢; omega)
    have B3 : Hid (W3.heap.size ≤ (W3.alloc (.cells #[.int .i64 x.id] 3)).heap.size) := Lib.hid (by simp)
    refine step_app1 rfl _ _ rfl (W3.alloc (.cells #[.int .i64 x.id] 3)).heap.size _ xs rfl OQ.out (by have := HXL.out; omega) W3.heap.size x.id rfl cnq BQ.out (fun v2 w4 ho4 g4 => ?_)
    obtain ⟨f1, f2, f3⟩ := FIN.out _ _ _ wq w4 w4 w4 B3.out OQ.out GQ.out g4 ho4
    obtain ⟨A4, c4, rfl, -⟩ := f1.form
    have F1 := Lib.hid f1
    have F2 := Lib.hid f2
    have F3 := Lib.hid f3
    clear f1 f2 f3 ho4 g4 bq
    try go_simp
    refine hK.out _ _ F3.out (fun _ => ?_)
    clear hK K
    try simp only [aS]
    refine wpAnyH_ready (rs := [14]) (by kernel_rfl) (by simp) ?_
    refine AllReadyH.cons rfl (fun K hK => ?_) AllReadyH.nil
    refine step_path HW.out rfl _ _ _ rfl F2.out (by have := HNT.out; have := HW.out.tot; omega) HXN.out (by omega) rfl rfl rfl F1.out (fun w5 h5 g5 => ?_)
    have N5 := Lib.hid (PaI.next HW.out I3.out HXN.out (F3.out.trans g5) h5)
    have O5 := (OO3.out.grown (F3.out.trans g5) n1).id
    have O6 := (OO3.out.grown (F3.out.trans g5) n1).into
    have K5 : Hid (Keeps [W0.heap.size, W0.heap.size + 1] W2 w5) := Lib.hid (Keeps.of_grown ((g23.mono (by simp)).trans (F3.out.trans g5)) (fun o ho hm => by have := HZ.out; simp at ho hm; omega))
    have J5 := F3.out.trans g5
    have FD5 : Hid (FeedA (w.heap.size + 1 + 1 + 1) (List.take n (allP ws)) w5) := Lib.hid (I3.out.fd.grown J5 n3)
    clear h5 g5
    try go_simp
    refine hK.out _ _ J5 (fun _ => ?_)
    clear hK K J5
    try simp only [aS]
    refine heldN_done (by kernel_rfl) ?_ _
    clear J0
    rcases HIN.out with hin | ⟨k, hin, -, -, hk⟩
    ·have hin : x.into = _ := hin
     rw [hin] at O6
     gi_wp2_with fail
     exact ⟨K5.out, N5.out.1 (by show x.into < 0; omega)⟩
    ·have hin : x.into = _ := hin
     rw [hin] at O6
     obtain ⟨e1, e2⟩ := FD5.out k hk
     have hk2 : (k : Int) < 16 := by omega
     have hk3 : (0 : Int) ≤ (k : Int) := by omega
     obtain ⟨fk, hfk⟩ : ∃ fk, feedS (List.take n (allP ws)) k = fk := ⟨_, rfl⟩
     rw [hfk] at e1
     clear hfk
     gi_wp2_with fail
     exact ⟨K5.out.trans (Keeps.of_grown (GrownL.set (bs := [w.heap.size + 1 + 1 + 1]) _ _ _ (by simp)) (fun o ho hm => by have := HZ.out; simp at ho hm; omega)), N5.out.2 k hk hin⟩
  ·go_simp
   have J5 : GrownL [w.heap.size + 1] W3 (W3.alloc (.cells #[.int .i64 x.id] 3)) := (J0).trans (GrownL.of_below ((Below.refl _ _).alloc (Nat.le_refl _) _))
   have cn : (W3.alloc (.cells #[.int .i64 x.id] 3)).cell? ⟨W3.heap.size, 0, none⟩ = some (.int .i64 x.id) := by simp [go_sem]
   refine hK.out _ _ J5 (fun _ => ?_)
   clear hK K
   try simp only [aS]
   refine wpAnyH_ready (rs := [8]) (by kernel_rfl) (by simp) ?_
   refine AllReadyH.cons rfl (fun K hK => ?_) AllReadyH.nil
   have r8 := HL.out (W3.alloc (.cells #[.int .i64 x.id] 3)) (Below.heap_alloc _ _ _ (by have := HZW.out; have := Z3.out; omega))
   go_simp
   refine hK.out _ _ (J5) (fun _ => ?_)
   clear hK K r8
   try simp only [aS]
   refine wpAnyH_ready (rs := [9]) (by kernel_rfl) (by simp) ?_
   refine AllReadyH.cons rfl (fun K hK => ?_) AllReadyH.nil
   go_simp
   refine (cloneI_any _ xs (W3.alloc (.cells #[.int .i64 x.id] 3)) (HRR.out _ (J5)) (by have := HXL.out; omega)).mono ?_
   rintro e wq ⟨vq, rfl, hvq, bq⟩
   have J3 : GrownL [w.heap.size + 1] W3 wq := (J5).trans (GrownL.of_below bq)
   have cnq := (bq.cell (p := ⟨W3.heap.size, 0, none⟩) (by simp)).trans cn
   have HVQ := Lib.hid hvq
   obtain ⟨Aq, cq, rfl, -⟩ := hvq.form
   clear hvq
   refine hK.out _ _ J3 (fun _ => ?_)
   clear hK K
   try simp only [aS]
   refine wpAnyH_ready (rs := [13]) (by kernel_rfl) (by simp) ?_
   refine AllReadyH.cons rfl (fun K hK => ?_) AllReadyH.nil
   have GQ : Hid (GrownL [] W3 wq) := Lib.hid (by
    exact (GrownL.of_below ((Below.refl _ _).alloc (Nat.le_refl _) _)).trans (GrownL.of_below bq))
   have OQ : Hid (OwnG encI 1 3 (W3.alloc (.cells #[.int .i64 x.id] 3)).heap.size _ xs wq) := Lib.hid (HVQ.out)
   have BQ : Hid ((W3.alloc (.cells #[.int .i64 x.id] 3)).heap.size ≤ wq.heap.size) := Lib.hid (by have := bq.size; simp at this ⊢; omega)
   have B3 : Hid (W3.heap.size ≤ (W3.alloc (.cells #[.int .i64 x.id] 3)).heap.size) := Lib.hid (by simp)
   refine step_app1 rfl _ _ rfl (W3.alloc (.cells #[.int .i64 x.id] 3)).heap.size _ xs rfl OQ.out (by have := HXL.out; omega) W3.heap.size x.id rfl cnq BQ.out (fun v2 w4 ho4 g4 => ?_)
   obtain ⟨f1, f2, f3⟩ := FIN.out _ _ _ wq w4 w4 w4 B3.out OQ.out GQ.out g4 ho4
   obtain ⟨A4, c4, rfl, -⟩ := f1.form
   have F1 := Lib.hid f1
   have F2 := Lib.hid f2
   have F3 := Lib.hid f3
   clear f1 f2 f3 ho4 g4 bq
   try go_simp
   refine hK.out _ _ F3.out (fun _ => ?_)
   clear hK K
   try simp only [aS]
   refine wpAnyH_ready (rs := [14]) (by kernel_rfl) (by simp) ?_
   refine AllReadyH.cons rfl (fun K hK => ?_) AllReadyH.nil
   refine step_path HW.out rfl _ _ _ rfl F2.out (by have := HNT.out; have := HW.out.tot; omega) HXN.out (by omega) rfl rfl rfl F1.out (fun w5 h5 g5 => ?_)
   have N5 := Lib.hid (PaI.next HW.out I3.out HXN.out (F3.out.trans g5) h5)
   have O5 := (OO3.out.grown (F3.out.trans g5) n1).id
   have O6 := (OO3.out.grown (F3.out.trans g5) n1).into
   have K5 : Hid (Keeps [W0.heap.size, W0.heap.size + 1] W2 w5) := Lib.hid (Keeps.of_grown ((g23.mono (by simp)).trans (F3.out.trans g5)) (fun o ho hm => by have := HZ.out; simp at ho hm; omega))
   have J5 := F3.out.trans g5
   have FD5 : Hid (FeedA (w.heap.size + 1 + 1 + 1) (List.take n (allP ws)) w5) := Lib.hid (I3.out.fd.grown J5 n3)
   clear h5 g5
   try go_simp
   refine hK.out _ _ J5 (fun _ => ?_)
   clear hK K J5
   try simp only [aS]
   refine heldN_done (by kernel_rfl) ?_ _
   clear J0
   rcases HIN.out with hin | ⟨k, hin, -, -, hk⟩
   ·have hin : x.into = _ := hin
    rw [hin] at O6
    gi_wp2_with fail
    exact ⟨K5.out, N5.out.1 (by show x.into < 0; omega)⟩
   ·have hin : x.into = _ := hin
    rw [hin] at O6
    obtain ⟨e1, e2⟩ := FD5.out k hk
    have hk2 : (k : Int) < 16 := by omega
    have hk3 : (0 : Int) ≤ (k : Int) := by omega
    obtain ⟨fk, hfk⟩ : ∃ fk, feedS (List.take n (allP ws)) k = fk := ⟨_, rfl⟩
    rw [hfk] at e1
    clear hfk
    gi_wp2_with fail
    exact ⟨K5.out.trans (Keeps.of_grown (GrownL.set (bs := [w.heap.size + 1 + 1 + 1]) _ _ _ (by simp)) (fun o ho hm => by have := HZ.out; simp at ho hm; omega)), N5.out.2 k hk hin⟩
 case done =>
  rintro xs W hS hi hK
  obtain rfl : xs = allP ws := hS
  have HI := Lib.hid hi
  have HKK := Lib.hid hK
  have m0 := hi.m
  clear hi hK
  gi_wp2_with fail
  refine ⟨by simp, .inl ⟨_, _, rfl, run_takeDeferred HKK.out, ?_⟩⟩
  refine ⟨_, results_tmp rfl _ _ _, ?_⟩
  have gp : GrownL [W0.heap.size] W (W.putObj W0.heap.size (.deferred none)) := GrownL.putObj (bs := [W0.heap.size]) W W0.heap.size (.deferred none) (by simp)
  have J := HI.out.grown gp (fun b hb => by have := HZ.out; simp at hb; omega) (fun b hb => by have := HZ.out; simp at hb; omega)
  have hpm := J.pm
  rw [allP_len] at hpm
  exact ⟨rfl, hpm, J.kp.1⟩
end Go.Proofs.Ytkoacclbempmdaa
