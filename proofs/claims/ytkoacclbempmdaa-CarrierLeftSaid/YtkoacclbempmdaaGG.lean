/- Contract of Check, where there are not too many carriers and outlets. -/
import Derived.Test.YtkoacclbempmdaaGF
namespace Go.Proofs.Ytkoacclbempmdaa
open Go.RowKit Go.Maps
attribute [local go_sem] Oper.semAt_some

theorem prefix_of {ws : Wk} {s : List Pl} {x : Pl} (h : SomePl ws (s ++ [x])) : (allP ws)[s.length]? = some x ∧ s = (allP ws).take s.length := by
 obtain ⟨i, hi, e⟩ := h
 have hl := congrArg List.length e
 rw [List.length_append, List.length_take, allP_len] at hl
 simp at hl
 obtain rfl : i = s.length := by omega
 have hlt : s.length < (allP ws).length := by rw [allP_len]; exact hi
 rw [List.take_succ_eq_append_getElem hlt] at e
 obtain ⟨e1, e2⟩ := List.append_inj' e rfl
 exact ⟨by rw [List.getElem?_eq_getElem hlt]; simp at e2; rw [e2], e1⟩
theorem twice_iff {ws : Wk} {s : List Pl} {p : Pl} (h : s = (allP ws).take s.length) : twice ws s.length p ↔ ∃ q ∈ s, q.o.id = p.o.id ∨ (0 ≤ p.o.into ∧ q.o.into = p.o.into) := by
 constructor
 ·rintro ⟨j, q, hj, hq, hh⟩
  exact ⟨q, by rw [h]; exact List.mem_of_getElem? (i := j) (by rw [List.getElem?_take, if_pos hj]; exact hq), hh⟩
 ·rintro ⟨q, hq, hh⟩
  obtain ⟨j, hj⟩ := List.mem_iff_getElem?.1 hq
  have hjl := (List.getElem?_eq_some_iff.1 hj).1
  rw [h, List.getElem?_take, if_pos hjl] at hj
  exact ⟨j, q, hjl, hj, hh⟩
theorem fedB_iff {s : List Pl} {k : Nat} : fedB s k = true ↔ ∃ q ∈ s, q.o.into = k := by simp [fedB]
/-- What the loop over all outlets keeps in Check. -/
structure CkI (ws : Wk) (w : World) (n : Nat) (v : Value) (O : List Nat) (s : List Pl) (W : World) : Prop where
 c : W.cell? ⟨w.heap.size, 0, none⟩ = some v
 r : W.cell? ⟨w.heap.size + 1, 0, none⟩ = some (.int .i64 0)
 rf : W.frozen? ⟨w.heap.size + 1, 0, none⟩ = false
 m : W.cell? ⟨n + 1, 0, none⟩ = some (.map (some n))
 ids : W.ownsMap Try.prog 3 (plainElem (H := Unit) Try.prog 4) n s.length (idD (s.map fun p => p.o.id))
 fed : Fed (n + 2) s W
 kp : KP w (n + 3) v W
 good : GoodTo ws s.length
theorem CkI.grown {ws : Wk} {w W W' : World} {n : Nat} {v : Value} {O O' bs : List Nat} {s : List Pl} (h : CkI ws w n v O s W) (hwn : w.heap.size + 2 ≤ n) (hg : GrownL bs W W') (hn : ∀ b ∈ bs, n + 4 ≤ b) : CkI ws w n v O' s W' := by
 have nb : ∀ k, k ≤ n + 3 → k ∉ bs := fun k hk hm => by have := hn k hm; omega
 exact ⟨hg.cell h.c (nb _ (by show w.heap.size ≤ _; omega)), hg.cell h.r (nb _ (by show w.heap.size + 1 ≤ _; omega)), (World.frozen?_of_block (hg.block _ (World.block_lt_of_cell? _ _ h.r) (nb _ (by show w.heap.size + 1 ≤ _; omega)))).trans h.rf, hg.cell h.m (nb _ (by show n + 1 ≤ _; omega)), ownsMap_grown h.ids hg (nb _ (by omega)), h.fed.grown hg (nb _ (by omega)), ⟨h.kp.1.trans (hg.below (fun b hb => by have := hn b hb; omega) h.kp.1.size), hg.cell h.kp.2 (nb _ (Nat.le_refl _))⟩, h.good⟩
theorem CkI.next {ws : Wk} {w W W1 W2 : World} {n : Nat} {v : Value} {O O' : List Nat} {s : List Pl} {p : Pl} (h : CkI ws w n v O s W) (hwn : w.heap.size + 2 ≤ n) (hp : (allP ws)[s.length]? = some p) (hb : BadIs ws s.length p 0)
  (hm : W1.ownsMap Try.prog 3 (plainElem (H := Unit) Try.prog 4) n (s.length + 1) ((idD (s.map fun p => p.o.id)).put (.int .i64 p.o.id) (.lit (.bool true)))) (hg : GrownL [n] W W1) (hf : Fed (n + 2) (s ++ [p]) W2) (hg2 : GrownL [n + 2] W1 W2) : CkI ws w n v O' (s ++ [p]) W2 := by
 have G : GrownL [n, n + 2] W W2 := (hg.mono (by simp)).trans (hg2.mono (by simp))
 have nb : ∀ k, k ≠ n → k ≠ n + 2 → k ∉ [n, n + 2] := fun k h1 h2 => by simp [h1, h2]
 refine ⟨G.cell h.c (nb _ (by show w.heap.size ≠ _; omega) (by show w.heap.size ≠ _; omega)), G.cell h.r (nb _ (by show w.heap.size + 1 ≠ _; omega) (by show w.heap.size + 1 ≠ _; omega)), (World.frozen?_of_block (G.block _ (World.block_lt_of_cell? _ _ h.r) (nb _ (by show w.heap.size + 1 ≠ _; omega) (by show w.heap.size + 1 ≠ _; omega)))).trans h.rf, G.cell h.m (nb _ (by simp) (by simp)), ?_, hf, ⟨h.kp.1.trans (G.below (by simp; omega) h.kp.1.size), G.cell h.kp.2 (nb _ (by simp) (by simp))⟩, ?_⟩
 ·rw [List.length_append, List.map_append]
  have e : idD (List.map (fun p => p.o.id) s ++ List.map (fun p => p.o.id) [p]) = (idD (s.map fun p => p.o.id)).put (.int .i64 p.o.id) (.lit (.bool true)) := idD_snoc _ _
  rw [e]
  exact ownsMap_grown hm hg2 (by simp)
 ·rw [List.length_append]
  exact h.good.succ hp hb
/-- An outlet and where it stands, in two blocks. -/
structure CkB (b : Nat) (c id into : Int) (W : World) : Prop where
 c : W.cell? ⟨b, 1, none⟩ = some (.int .i64 c)
 id : W.cell? ⟨b + 1, 0, none⟩ = some (.int .i64 id)
 into : W.cell? ⟨b + 1, 1, none⟩ = some (.int .i64 into)
theorem CkB.below {b n : Nat} {c id into : Int} {W W' : World} (h : CkB b c id into W) (hb : Below n W W') (hn : b + 2 ≤ n) : CkB b c id into W' :=
 ⟨(hb.cell (p := ⟨b, 1, none⟩) (by show b < n; omega)).trans h.c, (hb.cell (p := ⟨b + 1, 0, none⟩) (by show b + 1 < n; omega)).trans h.id, (hb.cell (p := ⟨b + 1, 1, none⟩) (by show b + 1 < n; omega)).trans h.into⟩
theorem CkB.grown {b : Nat} {c id into : Int} {bs : List Nat} {W W' : World} (h : CkB b c id into W) (hg : GrownL bs W W') (hn : ∀ k ∈ bs, k < b) : CkB b c id into W' :=
 ⟨hg.cell h.c (fun hm => by have := hn _ hm; simp at this), hg.cell h.id (fun hm => by have := hn _ hm; simp at this; omega), hg.cell h.into (fun hm => by have := hn _ hm; simp at this; omega)⟩
/-- How it is left. -/
def CkX (w : World) (d : Int) (c : Code) (_ : List Nat) (_ : List Pl) (W : World) : Prop := c = .ret ∧ W.cell? ⟨w.heap.size + 1, 0, none⟩ = some (.int .i64 d) ∧ Below w.heap.size w W

set_option maxHeartbeats 16000000 in
set_option maxRecDepth 1000000 in
theorem check_ok_ (A : Option Addr) (c : Nat) (ws : Wk) (d : Int) (w : World) (h : RK w.heap.size (.slice A ws.length c) ws w) (h1 : ws.length ≤ 16) (h2 : total ws ≤ 60) (hc : CheckIs ws d) :
  Calls Try.prog 54 #[.agg #[.slice A ws.length c]] w fun e w' => e = .returned (.int .i64 d) ∧ Below w.heap.size w w' := by
 have H := Lib.hid h
 have HC := Lib.hid hc
 have HN := Lib.hid (And.intro h1 h2)
 have CC := Lib.hid fun W (hb : Below w.heap.size w W) => count_any A ws.length c ws W (h.up hb.size hb) (by omega)
 have a1 : (ws.length : Int) ≤ 16 := by omega
 have a2 : (total ws : Int) ≤ 60 := by omega
 have hmm := @run_makeMap Try.prog
 clear h hc h1 h2
 refine (callsIn_wide (n := 3)).1 ?_
 refine callsIn_of_wp_marks Try.func54 rfl trivial ?_ rfl
 simp only [Try.ntmps54, List.size_toArray, List.length_cons, List.length_nil, Nat.reduceAdd, Nat.reduceSub, Array.replicate_succ, Array.replicate_zero, List.push_toArray, List.append_toArray, List.nil_append, List.cons_append]
 gi_wp2_with fail
 refine ⟨trivial, (callsIn_wide.2 (CC.out _ ?b)).mono ?_⟩
 case b => exact ((Below.refl _ _).alloc (Nat.le_refl _) _).alloc (by simp) _
 rintro e w1 ⟨rfl, b1⟩
 have hz := b1.size
 have x0 : w1.cell? ⟨w.heap.size, 0, none⟩ = some (.slice A ws.length c) := (b1.cell (p := ⟨w.heap.size, 0, none⟩) (by simp; omega)).trans (by simp [go_sem])
 have x1 : w1.cell? ⟨w.heap.size + 1, 0, none⟩ = some (.int .i64 0) := (b1.cell (p := ⟨w.heap.size + 1, 0, none⟩) (by simp)).trans (by simp [go_sem])
 have x2 : w1.frozen? ⟨w.heap.size + 1, 0, none⟩ = false := (b1.frozen (p := ⟨w.heap.size + 1, 0, none⟩) (by simp)).trans (by simp [go_sem])
 have hz1 : w.heap.size + 2 ≤ w1.heap.size := by simp at hz; omega
 have B1 := Lib.hid ((((Below.refl w.heap.size w).alloc (Nat.le_refl _) (.cells #[.slice A ws.length c] 24)).alloc (by simp) (.cells #[.int .i64 0] 31)).trans (b1.mono (by simp; omega)))
 have x0' : (((w1.alloc (.map #[] 0)).alloc (.cells #[.map (some w1.heap.size)] 161)).alloc (.cells #[.bool false, .bool false, .bool false, .bool false, .bool false, .bool false, .bool false, .bool false, .bool false, .bool false, .bool false, .bool false, .bool false, .bool false, .bool false, .bool false] 162)).cell? ⟨w.heap.size, 0, none⟩ = some (.slice A ws.length c) := (World.cell?_alloc_lt _ _ _ (by simp; omega)).trans ((World.cell?_alloc_lt _ _ _ (by simp; omega)).trans ((World.cell?_alloc_lt _ _ _ (by show w.heap.size < _; omega)).trans x0))
 have X0 := Lib.hid x0
 have X1 := Lib.hid x1
 have X2 := Lib.hid x2
 have Z1 := Lib.hid hz1
 clear b1 hz x1 x2 hz1
 gi_wp2_with fail
 refine ⟨trivial, (callsIn_wide.2 (places_any A ws.length c _)).mono ?_⟩
 rintro e w3 ⟨rfl, rfl⟩
 obtain ⟨W0, hW0⟩ : ∃ W0, (((w1.alloc (.map #[] 0)).alloc (.cells #[.map (some w1.heap.size)] 161)).alloc (.cells #[.bool false, .bool false, .bool false, .bool false, .bool false, .bool false, .bool false, .bool false, .bool false, .bool false, .bool false, .bool false, .bool false, .bool false, .bool false, .bool false] 162)).alloc (.cells #[.slice A ws.length c] 24) = W0 := ⟨_, rfl⟩
 have hz0 : W0.heap.size = w1.heap.size + 4 := by rw [← hW0]; simp
 have hb2 : Below w.heap.size w W0 := by
  have := Z1.out
  rw [← hW0]
  exact (((B1.out.alloc (by omega) _).alloc (by simp; omega) _).alloc (by simp; omega) _).alloc (by simp; omega) _
 have bw1 : Below w1.heap.size w1 W0 := by
  rw [← hW0]
  exact ((((Below.refl _ _).alloc (Nat.le_refl _) _).alloc (by simp) _).alloc (by simp; omega) _).alloc (by simp; omega) _
 have I0 : Hid (CkI ws w w1.heap.size (.slice A ws.length c) [] [] W0) := Lib.hid (by
  have zz := Z1.out
  refine ⟨(bw1.cell (p := ⟨w.heap.size, 0, none⟩) (by show w.heap.size < _; omega)).trans X0.out, (bw1.cell (p := ⟨w.heap.size + 1, 0, none⟩) (by show w.heap.size + 1 < _; omega)).trans X1.out, (bw1.frozen (p := ⟨w.heap.size + 1, 0, none⟩) (by show w.heap.size + 1 < _; omega)).trans X2.out, ?_, ?_, fun d hd => ?_, ⟨hb2, ?_⟩, fun j q hj => by simp at hj⟩
  ·rw [← hW0]; simp [go_sem]
  ·rw [← hW0]; exact (((World.ownsMap_made w1 _ _ _).alloc _).alloc _).alloc _
  ·rw [← hW0]
   have : d = 0 ∨ d = 1 ∨ d = 2 ∨ d = 3 ∨ d = 4 ∨ d = 5 ∨ d = 6 ∨ d = 7 ∨ d = 8 ∨ d = 9 ∨ d = 10 ∨ d = 11 ∨ d = 12 ∨ d = 13 ∨ d = 14 ∨ d = 15 := by omega
   rcases this with rfl | rfl | rfl | rfl | rfl | rfl | rfl | rfl | rfl | rfl | rfl | rfl | rfl | rfl | rfl | rfl <;> exact ⟨by simp [go_sem, fedB], by simp [go_sem]⟩
  ·rw [← hW0]; simp [go_sem])
 have HB2 := Lib.hid hb2
 clear x0 x0' bw1
 gi_wp2_with fail
 try rw [hW0]
 refine wpIn_rangeK (gf := 132) (lb := #[.pointer (some ⟨w1.heap.size + 1 + 1 + 1, 0, none⟩)]) rfl enters_places1
  (places_seq w W0 (w1.heap.size + 3) A ws.length c ws H.out (by have := HN.out; omega) (by have := HN.out; omega)) (Below.refl _ _) (fun o ho => by cases ho) (fun _ => rfl)
  (CkI ws w w1.heap.size (.slice A ws.length c)) (CkX w d) (fun _ _ _ h => h.kp) ?h0 ?hI ?hIx ?round ?done ?stop
 case h0 =>
  intro W' hb hsz
  exact I0.out.grown Z1.out (bs := []) (GrownL.of_below hb) (by simp)
 case hI =>
  rintro O O' s W1 W2 hO hi hg hcl
  refine hi.grown Z1.out hg (fun b hb => ?_)
  rcases List.mem_cons.1 hb with e | hb
  ·omega
  rcases List.mem_cons.1 hb with e | hb
  ·omega
  ·rcases hO _ hb with h | h
   ·cases h
   ·omega
 case hIx =>
  rintro k O s W1 W2 hO ⟨e, hr, hB⟩ hg
  have hn : ∀ b ∈ W0.heap.size :: (W0.heap.size + 1) :: O, w1.heap.size + 4 ≤ b := fun b hb => by
   rcases List.mem_cons.1 hb with e | hb
   ·omega
   rcases List.mem_cons.1 hb with e | hb
   ·omega
   ·rcases hO _ hb with h | h
    ·cases h
    ·omega
  have zz := Z1.out
  exact ⟨e, hg.cell hr (fun hm => by have := hn _ hm; simp at this; omega), hB.trans (hg.below (fun b hb => by have := hn b hb; omega) hB.size)⟩
 case round =>
  rintro O pre x W hO hi hsz hsp
  have HI := Lib.hid hi
  obtain ⟨hat, hpre⟩ := prefix_of hsp
  have HAT := Lib.hid hat
  have HTW := Lib.hid (twice_iff (p := x) hpre)
  have HPS : Hid (RI w.heap.size x.o.pv x.o.ps w) := Lib.hid (outs_ps H.out x.o (List.mem_of_getElem? (outs_get hat).1))
  clear hi hsp hat hpre
  obtain ⟨xa, xc, xn, x⟩ := x
  dsimp only [encP]
  gi_wp2_with fail
  have hwz : w1.heap.size + 6 ≤ W.heap.size := by omega
  refine ⟨Keeps.of_below (((Below.refl _ _).alloc (Nat.le_refl _) _).alloc (by simp) _), fun W2 hg2 hl2 => ?_⟩
  have g0 : GrownL (([] : List Nat)) W _ := GrownL.of_below (((Below.refl W.heap.size W).alloc (Nat.le_refl _) (.cells #[.int .i64 xa, .int .i64 xc, .int .i64 xn] 133)).alloc (by simp) (.cells #[.int .i64 x.id, .int .i64 x.into, .slice x.pa x.ps.length x.pc, .int .i64 x.k0, .int .i64 x.k1, .int .i64 x.s0, .int .i64 x.s1] 42))
  have hne : ∀ k, W.heap.size ≤ k → k ∉ [w1.heap.size + 4 + 1] := fun k hk hm => by rw [List.mem_singleton] at hm; omega
  have HI2 : Hid (CkI ws w w1.heap.size (.slice A ws.length c) O pre W2) := Lib.hid ((HI.out.grown (O' := O) Z1.out g0 (by simp)).grown Z1.out hg2 (by simp <;> omega))
  have q1 : W2.cell? ⟨W.heap.size, 1, none⟩ = some (.int .i64 xc) := hg2.cell (p := ⟨W.heap.size, 1, none⟩) (by simp [go_sem]) (hne _ (Nat.le_refl _))
  have o0 : W2.cell? ⟨W.heap.size + 1, 0, none⟩ = some (.int .i64 x.id) := hg2.cell (p := ⟨W.heap.size + 1, 0, none⟩) (by simp [go_sem]) (hne _ (by simp))
  have o1 : W2.cell? ⟨W.heap.size + 1, 1, none⟩ = some (.int .i64 x.into) := hg2.cell (p := ⟨W.heap.size + 1, 1, none⟩) (by simp [go_sem]) (hne _ (by simp))
  have o2 : W2.cell? ⟨W.heap.size + 1, 2, none⟩ = some (.slice x.pa x.ps.length x.pc) := hg2.cell (p := ⟨W.heap.size + 1, 2, none⟩) (by simp [go_sem]) (hne _ (by simp))
  have o3 : W2.cell? ⟨W.heap.size + 1, 3, none⟩ = some (.int .i64 x.k0) := hg2.cell (p := ⟨W.heap.size + 1, 3, none⟩) (by simp [go_sem]) (hne _ (by simp))
  have o4 : W2.cell? ⟨W.heap.size + 1, 4, none⟩ = some (.int .i64 x.k1) := hg2.cell (p := ⟨W.heap.size + 1, 4, none⟩) (by simp [go_sem]) (hne _ (by simp))
  have o5 : W2.cell? ⟨W.heap.size + 1, 5, none⟩ = some (.int .i64 x.s0) := hg2.cell (p := ⟨W.heap.size + 1, 5, none⟩) (by simp [go_sem]) (hne _ (by simp))
  have o6 : W2.cell? ⟨W.heap.size + 1, 6, none⟩ = some (.int .i64 x.s1) := hg2.cell (p := ⟨W.heap.size + 1, 6, none⟩) (by simp [go_sem]) (hne _ (by simp))
  have C := isOutlet_any x W2 (HPS.out.up HI2.out.kp.1.size HI2.out.kp.1)
  have BB : Hid (CkB W.heap.size xc x.id x.into W2) := Lib.hid ⟨q1, o0, o1⟩
  have HWZ := Lib.hid hwz
  have HWS : Hid (W.heap.size + 2 ≤ W2.heap.size) := Lib.hid (World.block_lt_of_cell? _ _ o0)
  have HZ0 := Lib.hid hz0
  clear HI hg2 hl2 hne g0 hsz q1 hz0 hwz
  gi_wp2_with fail
  refine ⟨trivial, (CallsIn.inRound _ (callsIn_wide.2 C)).mono ?_⟩
  rintro e W3 ⟨rfl, b3⟩
  have HI3 : Hid (CkI ws w w1.heap.size (.slice A ws.length c) O pre W3) := Lib.hid (HI2.out.grown Z1.out (GrownL.of_below (bs := []) b3) (by simp))
  have BB3 := Lib.hid (BB.out.below b3 HWS.out)
  have K3 : Hid (Keeps ([w1.heap.size + 4, w1.heap.size + 4 + 1] ++ O) W2 W3) := Lib.hid (Keeps.of_below b3)
  have HWS3 := Lib.hid (Nat.le_trans HWS.out b3.size)
  have r0 := HI3.out.r
  have rf := HI3.out.rf
  have v0 := HI3.out.c
  have p0 := BB3.out.c
  have p1 := BB3.out.into
  clear o0 o1 o2 o3 o4 o5 o6 C HI2 BB HWS b3
  have HOK : Hid (okB ws ⟨xa, xc, xn, x⟩ = (ouB x && intoB x.into xc ws.length)) := Lib.hid rfl
  have KO : ∀ W', Below w.heap.size w W' → W'.cell? ⟨w.heap.size + 1, 0, none⟩ = some (.int .i64 1) → okB ws ⟨xa, xc, xn, x⟩ = false → CkX w d .ret O (pre ++ [⟨xa, xc, xn, x⟩]) W' := fun W' hB hr hk =>
   ⟨rfl, by rw [hr, HC.out.first HN.out.1 HN.out.2 HAT.out HI3.out.good (.inl ⟨hk, rfl⟩) (by decide)], hB⟩
  have KOH := Lib.hid KO
  have hnO : ∀ o ∈ [w1.heap.size + 4, w1.heap.size + 4 + 1] ++ O, o ∉ [w.heap.size + 1] := fun o ho hm => by
   rw [List.mem_singleton] at hm
   have := Z1.out
   have := HZ0.out
   rcases List.mem_append.1 ho with h | h
   ·simp at h
    omega
   ·rcases hO _ h with h' | h'
    ·cases h'
    ·omega
  have HNO := Lib.hid hnO
  clear KO hnO
  obtain ⟨z, hz⟩ : ∃ z, ouB x = z := ⟨_, rfl⟩
  have HZ := Lib.hid hz
  rw [hz]
  clear hz
  cases z
  ·gi_wp2_with fail
   refine ⟨trivial, ?_⟩
   gi_wp2_with fail
   have hg : GrownL [w.heap.size + 1] W3 (W3.setCell ⟨w.heap.size + 1, 0, none⟩ (.int .i64 1)) := GrownL.set _ _ _ (by simp)
   exact ⟨K3.out.trans (Keeps.of_grown hg HNO.out), KOH.out _ (HI3.out.kp.1.trans (hg.below (by simp) HI3.out.kp.1.size)) (World.cell?_setCell_same' _ _ _ (by rw [HI3.out.r]; rfl)) (by rw [HOK.out, HZ.out]; rfl)⟩
  ·gi_wp2_with fail
   refine ⟨trivial, (CallsIn.inRound _ (callsIn_wide.2 (isInto_any x.into xc ws.length W3))).mono ?_⟩
   rintro e W4 ⟨rfl, b4⟩
   have HI4 : Hid (CkI ws w w1.heap.size (.slice A ws.length c) O pre W4) := Lib.hid (HI3.out.grown Z1.out (GrownL.of_below (bs := []) b4) (by simp))
   have BB4 := Lib.hid (BB3.out.below b4 HWS3.out)
   have K4 : Hid (Keeps ([w1.heap.size + 4, w1.heap.size + 4 + 1] ++ O) W2 W4) := Lib.hid (K3.out.trans (Keeps.of_below b4))
   clear r0 rf v0 p0 p1 b4 HI3 BB3 K3 HWS3
   have r0 := HI4.out.r
   have rf := HI4.out.rf
   obtain ⟨z, hz⟩ : ∃ z, intoB x.into xc ws.length = z := ⟨_, rfl⟩
   have HZ2 := Lib.hid hz
   rw [hz]
   clear hz
   cases z
   ·gi_wp2_with fail
    have hg : GrownL [w.heap.size + 1] W4 (W4.setCell ⟨w.heap.size + 1, 0, none⟩ (.int .i64 1)) := GrownL.set _ _ _ (by simp)
    exact ⟨K4.out.trans (Keeps.of_grown hg HNO.out), KOH.out _ (HI4.out.kp.1.trans (hg.below (by simp) HI4.out.kp.1.size)) (World.cell?_setCell_same' _ _ _ (by rw [HI4.out.r]; rfl)) (by rw [HOK.out, HZ.out, HZ2.out]; rfl)⟩
   ·have HIN : Hid (x.into = -1 ∨ ∃ k : Nat, x.into = k ∧ k < 16) := Lib.hid (by
     have := intoB_iff.1 HZ2.out
     have := HN.out.1
     rcases intoB_iff.1 HZ2.out with h | h
     ·exact .inl h
     ·exact .inr ⟨x.into.toNat, by omega, by omega⟩)
    have HWF : Hid ((Lit.int .i64 x.id).wf = true) := Lib.hid (by
     have := HZ.out
     unfold ouB at this
     rw [Bool.and_eq_true, Bool.and_eq_true, decide_eq_true_eq, decide_eq_true_eq] at this
     have m0 : IntKind.i64.min = -9223372036854775808 := rfl
     have m1 : IntKind.i64.max = 9223372036854775807 := rfl
     simp only [Lit.wf, m0, m1, Bool.and_eq_true, decide_eq_true_eq]
     omega)
    have i0 := BB4.out.id
    have i1 := BB4.out.into
    have m0 := HI4.out.m
    obtain ⟨bid, hbid⟩ : ∃ bid, decide (x.id ∈ pre.map fun p => p.o.id) = bid := ⟨_, rfl⟩
    have hat := id_at _ (pre.map fun p => p.o.id) rfl x.id
    rw [hbid] at hat
    have HB := Lib.hid hbid
    have HAT2 := Lib.hid hat
    have HIDS := Lib.hid HI4.out.ids
    clear hbid hat
    have OK1 : Hid (okB ws ⟨xa, xc, xn, x⟩ = true) := Lib.hid (by rw [HOK.out, HZ.out, HZ2.out]; rfl)
    have KTW : Hid (∀ W', Below w.heap.size w W' → W'.cell? ⟨w.heap.size + 1, 0, none⟩ = some (.int .i64 6) → twice ws pre.length ⟨xa, xc, xn, x⟩ → CkX w d .ret O (pre ++ [⟨xa, xc, xn, x⟩]) W') := Lib.hid fun W' hB hr hk =>
     ⟨rfl, by rw [hr, HC.out.first HN.out.1 HN.out.2 HAT.out HI4.out.good (.inr (.inl ⟨OK1.out, hk, rfl⟩)) (by decide)], hB⟩
    have HLEN : Hid (pre.length < maxLen) := Lib.hid (by
     have := (List.getElem?_eq_some_iff.1 HAT.out).1
     rw [allP_len] at this
     have := HN.out.2
     unfold maxLen
     omega)
    have HN1 : Hid (∀ o ∈ [w1.heap.size + 4, w1.heap.size + 4 + 1] ++ O, o ≠ w1.heap.size ∧ o ≠ w1.heap.size + 2) := Lib.hid fun o ho => by
     have := Z1.out
     have := HZ0.out
     rcases List.mem_append.1 ho with h | h
     ·simp at h
      omega
     ·rcases hO _ h with h' | h'
      ·cases h'
      ·omega
    have HIDN : Hid (bid = false → ∀ q ∈ pre, q.o.id ≠ x.id) := Lib.hid fun h q hq e => by
     rw [h, decide_eq_false_iff_not] at HB
     exact HB.out (List.mem_map.2 ⟨q, hq, e⟩)
    have HIDY : Hid (bid = true → ∃ q ∈ pre, q.o.id = x.id) := Lib.hid fun h => by
     rw [h, decide_eq_true_iff] at HB
     exact List.mem_map.1 HB.out
    rcases HIN.out with hin | ⟨k, hin, hk⟩
    ·rw [hin] at i1
     cases bid
     ·gi_wp2_with (first | (gi_at_lookup; refine wpListIn_lookup_own_bool _ rfl _ _ 161 rfl 3 4 keyI Try.underlying161 Try.underlying4 (zeroBool _) w1.heap.size pre.length (idD (pre.map fun p => p.o.id)) rfl HIDS.out _ (.int .i64 x.id) rfl (keyOf_int_mk Try.underlying3 HWF.out) false HAT2.out ?_) | (gi_at_mapUpdate; refine wpListIn_mapUpdate_own _ rfl _ _ _ 161 rfl 3 4 keyI Try.underlying161 _ w1.heap.size pre.length (idD (pre.map fun p => p.o.id)) rfl HIDS.out HLEN.out _ _ (.int .i64 x.id) rfl rfl (keyOf_int_mk Try.underlying3 HWF.out) _ [] (plainElem_bool Try.underlying4 true) ?_; intro w5 hm5 hg5; have M5 := Lib.hid hm5; have G5 := Lib.hid (GrownL.of_row hg5); have i1 := (BB4.out.grown G5.out (fun k hk => by simp at hk; have := Z1.out; have := HWZ.out; omega)).into; rw [hin] at i1; skip; clear hm5 hg5))
      have hnt : ¬ twice ws pre.length ⟨xa, xc, xn, x⟩ := fun h => by
       obtain ⟨q, hq, e | ⟨e, _⟩⟩ := HTW.out.1 h
       ·exact HIDN.out trivial q hq e
       ·omega
      refine ⟨K4.out.trans (Keeps.of_grown G5.out (fun o ho hm => (HN1.out o ho).1 (by simpa using hm))), HI4.out.next Z1.out HAT.out (.inr (.inr ⟨OK1.out, hnt, rfl⟩)) M5.out G5.out ?_ (GrownL.of_below (Below.refl _ _))⟩
      exact (HI4.out.fed.grown G5.out (by simp)).pass (by show x.into < 0; omega)
     ·gi_wp2_with (first | (gi_at_lookup; refine wpListIn_lookup_own_bool _ rfl _ _ 161 rfl 3 4 keyI Try.underlying161 Try.underlying4 (zeroBool _) w1.heap.size pre.length (idD (pre.map fun p => p.o.id)) rfl HIDS.out _ (.int .i64 x.id) rfl (keyOf_int_mk Try.underlying3 HWF.out) true HAT2.out ?_) | (gi_at_mapUpdate; refine wpListIn_mapUpdate_own _ rfl _ _ _ 161 rfl 3 4 keyI Try.underlying161 _ w1.heap.size pre.length (idD (pre.map fun p => p.o.id)) rfl HIDS.out HLEN.out _ _ (.int .i64 x.id) rfl rfl (keyOf_int_mk Try.underlying3 HWF.out) _ [] (plainElem_bool Try.underlying4 true) ?_; intro w5 hm5 hg5; have M5 := Lib.hid hm5; have G5 := Lib.hid (GrownL.of_row hg5); have i1 := (BB4.out.grown G5.out (fun k hk => by simp at hk; have := Z1.out; have := HWZ.out; omega)).into; rw [hin] at i1; skip; clear hm5 hg5))
      obtain ⟨q, hq, e⟩ := HIDY.out trivial
      have hg : GrownL [w.heap.size + 1] W4 (W4.setCell ⟨w.heap.size + 1, 0, none⟩ (.int .i64 6)) := GrownL.set _ _ _ (by simp)
      exact ⟨K4.out.trans (Keeps.of_grown hg HNO.out), KTW.out _ (HI4.out.kp.1.trans (hg.below (by simp) HI4.out.kp.1.size)) (World.cell?_setCell_same' _ _ _ (by rw [HI4.out.r]; rfl)) (HTW.out.2 ⟨q, hq, .inl e⟩)⟩
    ·rw [hin] at i1
     have e1 : W4.cell? ⟨w1.heap.size + 1 + 1, k, none⟩ = _ := (HI4.out.fed k hk).1
     obtain ⟨bf, hbf⟩ : ∃ bf, fedB pre k = bf := ⟨_, rfl⟩
     rw [hbf] at e1
     have HBF := Lib.hid hbf
     clear hbf
     have hk0 : (k : Int) < 16 := by omega
     have hk1 : (0 : Int) ≤ (k : Int) := by omega
     cases bid
     ·cases bf
      ·gi_wp2_with (first | (gi_at_lookup; refine wpListIn_lookup_own_bool _ rfl _ _ 161 rfl 3 4 keyI Try.underlying161 Try.underlying4 (zeroBool _) w1.heap.size pre.length (idD (pre.map fun p => p.o.id)) rfl HIDS.out _ (.int .i64 x.id) rfl (keyOf_int_mk Try.underlying3 HWF.out) false HAT2.out ?_) | (gi_at_mapUpdate; refine wpListIn_mapUpdate_own _ rfl _ _ _ 161 rfl 3 4 keyI Try.underlying161 _ w1.heap.size pre.length (idD (pre.map fun p => p.o.id)) rfl HIDS.out HLEN.out _ _ (.int .i64 x.id) rfl rfl (keyOf_int_mk Try.underlying3 HWF.out) _ [] (plainElem_bool Try.underlying4 true) ?_; intro w5 hm5 hg5; have M5 := Lib.hid hm5; have G5 := Lib.hid (GrownL.of_row hg5); have i1 := (BB4.out.grown G5.out (fun k hk => by simp at hk; have := Z1.out; have := HWZ.out; omega)).into; rw [hin] at i1; have e1 : w5.cell? ⟨w1.heap.size + 1 + 1, k, none⟩ = _ := ((HI4.out.fed.grown G5.out (by simp)) k hk).1; have e2 : w5.frozen? ⟨w1.heap.size + 1 + 1, k, none⟩ = _ := ((HI4.out.fed.grown G5.out (by simp)) k hk).2; clear hm5 hg5))
       have hnt : ¬ twice ws pre.length ⟨xa, xc, xn, x⟩ := fun h => by
        obtain ⟨q, hq, e | ⟨_, e⟩⟩ := HTW.out.1 h
        ·exact HIDN.out trivial q hq e
        ·have := HBF.out
         rw [Bool.eq_false_iff] at this
         exact this (fedB_iff.2 ⟨q, hq, e.trans hin⟩)
       have hgs : GrownL [w1.heap.size + 2] w5 (w5.setCell ⟨w1.heap.size + 2, k, none⟩ (.bool true)) := GrownL.set _ _ _ (by simp)
       exact ⟨(K4.out.trans (Keeps.of_grown G5.out (fun o ho hm => (HN1.out o ho).1 (by simpa using hm)))).trans (Keeps.of_grown hgs (fun o ho hm => (HN1.out o ho).2 (by simpa using hm))), HI4.out.next Z1.out HAT.out (.inr (.inr ⟨OK1.out, hnt, rfl⟩)) M5.out G5.out ((HI4.out.fed.grown G5.out (by simp)).set hk hin) hgs⟩
      ·gi_wp2_with (first | (gi_at_lookup; refine wpListIn_lookup_own_bool _ rfl _ _ 161 rfl 3 4 keyI Try.underlying161 Try.underlying4 (zeroBool _) w1.heap.size pre.length (idD (pre.map fun p => p.o.id)) rfl HIDS.out _ (.int .i64 x.id) rfl (keyOf_int_mk Try.underlying3 HWF.out) false HAT2.out ?_) | (gi_at_mapUpdate; refine wpListIn_mapUpdate_own _ rfl _ _ _ 161 rfl 3 4 keyI Try.underlying161 _ w1.heap.size pre.length (idD (pre.map fun p => p.o.id)) rfl HIDS.out HLEN.out _ _ (.int .i64 x.id) rfl rfl (keyOf_int_mk Try.underlying3 HWF.out) _ [] (plainElem_bool Try.underlying4 true) ?_; intro w5 hm5 hg5; have M5 := Lib.hid hm5; have G5 := Lib.hid (GrownL.of_row hg5); have i1 := (BB4.out.grown G5.out (fun k hk => by simp at hk; have := Z1.out; have := HWZ.out; omega)).into; rw [hin] at i1; skip; clear hm5 hg5))
       obtain ⟨q, hq, e⟩ := fedB_iff.1 HBF.out
       have hg : GrownL [w.heap.size + 1] W4 (W4.setCell ⟨w.heap.size + 1, 0, none⟩ (.int .i64 6)) := GrownL.set _ _ _ (by simp)
       exact ⟨K4.out.trans (Keeps.of_grown hg HNO.out), KTW.out _ (HI4.out.kp.1.trans (hg.below (by simp) HI4.out.kp.1.size)) (World.cell?_setCell_same' _ _ _ (by rw [HI4.out.r]; rfl)) (HTW.out.2 ⟨q, hq, .inr ⟨by show 0 ≤ x.into; omega, e.trans hin.symm⟩⟩)⟩
     ·gi_wp2_with (first | (gi_at_lookup; refine wpListIn_lookup_own_bool _ rfl _ _ 161 rfl 3 4 keyI Try.underlying161 Try.underlying4 (zeroBool _) w1.heap.size pre.length (idD (pre.map fun p => p.o.id)) rfl HIDS.out _ (.int .i64 x.id) rfl (keyOf_int_mk Try.underlying3 HWF.out) true HAT2.out ?_) | (gi_at_mapUpdate; refine wpListIn_mapUpdate_own _ rfl _ _ _ 161 rfl 3 4 keyI Try.underlying161 _ w1.heap.size pre.length (idD (pre.map fun p => p.o.id)) rfl HIDS.out HLEN.out _ _ (.int .i64 x.id) rfl rfl (keyOf_int_mk Try.underlying3 HWF.out) _ [] (plainElem_bool Try.underlying4 true) ?_; intro w5 hm5 hg5; have M5 := Lib.hid hm5; have G5 := Lib.hid (GrownL.of_row hg5); have i1 := (BB4.out.grown G5.out (fun k hk => by simp at hk; have := Z1.out; have := HWZ.out; omega)).into; rw [hin] at i1; skip; clear hm5 hg5))
      obtain ⟨q, hq, e⟩ := HIDY.out trivial
      have hg : GrownL [w.heap.size + 1] W4 (W4.setCell ⟨w.heap.size + 1, 0, none⟩ (.int .i64 6)) := GrownL.set _ _ _ (by simp)
      exact ⟨K4.out.trans (Keeps.of_grown hg HNO.out), KTW.out _ (HI4.out.kp.1.trans (hg.below (by simp) HI4.out.kp.1.size)) (World.cell?_setCell_same' _ _ _ (by rw [HI4.out.r]; rfl)) (HTW.out.2 ⟨q, hq, .inl e⟩)⟩
 case done =>
  rintro O xs W hO hS hi hD hK
  obtain rfl : xs = allP ws := hS
  have HI := Lib.hid hi
  have HKK := Lib.hid hK
  have hd : d = 0 := HC.out.all HN.out.1 HN.out.2 (by have := hi.good; rwa [allP_len] at this)
  have r0 := hi.r
  have rf := hi.rf
  have HZ0 := Lib.hid hz0
  have hwz : w1.heap.size + 4 < W.heap.size := by have := (Array.getElem?_eq_some_iff.1 hK).1; omega
  clear hi hD hK hz0
  subst hd
  gi_wp2_with fail
  have gs : GrownL [w.heap.size + 1] W (W.setCell ⟨w.heap.size + 1, 0, none⟩ (.int .i64 0)) := GrownL.set _ _ _ (by simp)
  have q0 : (W.setCell ⟨w.heap.size + 1, 0, none⟩ (.int .i64 0)).cell? ⟨w.heap.size + 1, 0, none⟩ = some (.int .i64 0) := World.cell?_setCell_same' _ _ _ (by rw [HI.out.r]; rfl)
  have gp : GrownL [W0.heap.size] _ _ := GrownL.putObj (bs := [W0.heap.size]) (W.setCell ⟨w.heap.size + 1, 0, none⟩ (.int .i64 0)) W0.heap.size (.deferred none) (by simp)
  have p0 := gp.cell q0 (by have := HZ0.out; have := Z1.out; simp; omega)
  have hk : (W.setCell ⟨w.heap.size + 1, 0, none⟩ (.int .i64 0)).heap[W0.heap.size]? = some (.deferred (some [])) := (gs.block W0.heap.size (Array.getElem?_eq_some_iff.1 HKK.out).1 (by have := HZ0.out; have := Z1.out; simp; omega)).trans HKK.out
  have b0 : Below w.heap.size w (W.setCell ⟨w.heap.size + 1, 0, none⟩ (.int .i64 0)) := HI.out.kp.1.trans (gs.below (by simp) HI.out.kp.1.size)
  refine ⟨by simp, .inl ⟨_, _, rfl, run_takeDeferred hk, ?_⟩⟩
  exact ⟨.int .i64 0, by simp [results, Try.results54, go_sem, p0], rfl, b0.trans (gp.below (by have := HZ0.out; have := Z1.out; simp; omega) b0.size)⟩
 case stop =>
  rintro k O pre W hO hS ⟨rfl, hr, hB⟩ hK
  have gp : GrownL [W0.heap.size] _ _ := GrownL.putObj (bs := [W0.heap.size]) W W0.heap.size (.deferred none) (by simp)
  have p0 := gp.cell hr (by have := Z1.out; simp; omega)
  have HK := Lib.hid hK
  have HBB := Lib.hid hB
  have HZ0 := Lib.hid hz0
  clear hr hK hB hz0
  gi_wp2_with fail
  refine ⟨by simp, .inl ⟨_, _, rfl, run_takeDeferred HK.out, ?_⟩⟩
  exact ⟨.int .i64 d, by simp [results, Try.results54, go_sem, p0], rfl, HBB.out.trans (gp.below (by have := HZ0.out; have := Z1.out; simp; omega) HBB.out.size)⟩
end Go.Proofs.Ytkoacclbempmdaa

/- Contract of Check. -/
namespace Go.Proofs.Ytkoacclbempmdaa
open Go.RowKit
attribute [local go_sem] Oper.semAt_some

set_option maxHeartbeats 8000000 in
set_option maxRecDepth 1000000 in
theorem check_many_ (A : Option Addr) (c : Nat) (ws : Wk) (w : World) (h : RK w.heap.size (.slice A ws.length c) ws w) (ht : total ws ≤ 1000000) (hm : 16 < ws.length ∨ 60 < total ws) :
  Calls Try.prog 54 #[.agg #[.slice A ws.length c]] w fun e w' => e = .returned (.int .i64 2) ∧ Below w.heap.size w w' := by
 have CC := Lib.hid fun W (hb : Below w.heap.size w W) => count_any A ws.length c ws W (h.up hb.size hb) ht
 clear h ht
 refine (callsIn_wide (n := 3)).1 ?_
 refine callsIn_of_wp_marks Try.func54 rfl trivial ?_ rfl
 simp only [Try.ntmps54, List.size_toArray, List.length_cons, List.length_nil, Nat.reduceAdd, Nat.reduceSub, Array.replicate_succ, Array.replicate_zero, List.push_toArray, List.append_toArray, List.nil_append, List.cons_append]
 by_cases hl : 16 < ws.length
 ·have a1 : (16 : Int) < (ws.length : Int) := by omega
  gi_wp2_with fail
  refine ⟨trivial, ?_⟩
  gi_wp2_with fail
  exact ⟨.int .i64 2, by simp [results, Try.results54, go_sem], rfl, ((Below.refl _ _).alloc (Nat.le_refl _) _).alloc (by simp) _⟩
 ·have a1 : (ws.length : Int) ≤ 16 := by omega
  have a2 : (60 : Int) < (total ws : Int) := by omega
  gi_wp2_with fail
  refine ⟨trivial, (callsIn_wide.2 (CC.out _ ?b)).mono ?_⟩
  case b => exact ((Below.refl _ _).alloc (Nat.le_refl _) _).alloc (by simp) _
  rintro e w1 ⟨rfl, b1⟩
  have hz := b1.size
  have x1 : w1.cell? ⟨w.heap.size + 1, 0, none⟩ = some (.int .i64 0) := (b1.cell (p := ⟨w.heap.size + 1, 0, none⟩) (by simp)).trans (by simp [go_sem])
  have x2 : w1.frozen? ⟨w.heap.size + 1, 0, none⟩ = false := (b1.frozen (p := ⟨w.heap.size + 1, 0, none⟩) (by simp)).trans (by simp [go_sem])
  have B1 : Hid (Below w.heap.size w w1) := Lib.hid ((((Below.refl w.heap.size w).alloc (Nat.le_refl _) (.cells #[.slice A ws.length c] 24)).alloc (by simp) (.cells #[.int .i64 0] 31)).trans (b1.mono (by simp; omega)))
  have X1 := Lib.hid x1
  gi_wp2_with fail
  have gs : GrownL [w.heap.size + 1] w1 (w1.setCell ⟨w.heap.size + 1, 0, none⟩ (.int .i64 2)) := GrownL.set _ _ _ (by simp)
  have p0 : (w1.setCell ⟨w.heap.size + 1, 0, none⟩ (.int .i64 2)).cell? ⟨w.heap.size + 1, 0, none⟩ = some (.int .i64 2) := World.cell?_setCell_same' _ _ _ (by rw [X1.out]; rfl)
  exact ⟨.int .i64 2, by simp [results, Try.results54, go_sem, p0], rfl, B1.out.trans (gs.below (by simp) B1.out.size)⟩

/-- Check returns what the document asks, whatever works it is handed. -/
theorem check_any (v : Value) (ws : Wk) (d : Int) (w : World) (h : RK w.heap.size v ws w) (ht : total ws ≤ 1000000) (hc : CheckIs ws d) :
  Calls Try.prog 54 #[.agg #[v]] w fun e w' => e = .returned (.int .i64 d) ∧ Below w.heap.size w w' := by
 obtain ⟨A, c, rfl, -⟩ := id h
 by_cases hm : 16 < ws.length ∨ 60 < total ws
 ·obtain rfl := hc.many hm
  exact check_many_ A c ws w h ht hm
 ·exact check_ok_ A c ws d w h (by omega) (by omega) hc
end Go.Proofs.Ytkoacclbempmdaa
