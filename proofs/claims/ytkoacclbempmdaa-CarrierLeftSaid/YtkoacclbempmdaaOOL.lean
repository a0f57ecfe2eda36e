/- Contracts of among, by closures that capture. -/
import Derived.Test.YtkoacclbempmdaaOOK
namespace Go.Proofs.Ytkoacclbempmdaa
open Go.RowKit
attribute [local go_sem] Oper.semAt_some

/-- The numbers of those that a function says. -/
def idsQ (p : Pl → Bool) (s : List Pl) : List Int := (s.filter p).map fun q => q.o.id
theorem idsQ_keep {p : Pl → Bool} (s : List Pl) {x : Pl} (h : p x = true) : idsQ p (s ++ [x]) = idsQ p s ++ [x.o.id] := by simp [idsQ, h]
theorem idsQ_drop {p : Pl → Bool} (s : List Pl) {x : Pl} (h : p x = false) : idsQ p (s ++ [x]) = idsQ p s := by simp [idsQ, h]
theorem idsQ_len (p : Pl → Bool) (s : List Pl) : (idsQ p s).length ≤ s.length := by unfold idsQ; rw [List.length_map]; exact List.length_filter_le _ _
/-- What the loop of among keeps. -/
structure AmQ (w : World) (v f : Value) (p : Pl → Bool) (O : List Nat) (s : List Pl) (u : Value) (W : World) : Prop where
 lt : ∀ o ∈ O, o < W.heap.size
 f : W.cell? ⟨w.heap.size + 1, 0, none⟩ = some f
 kp : KP w (w.heap.size + 3) v W
 l : W.cell? ⟨w.heap.size + 2, 0, none⟩ = some u
 lf : W.frozen? ⟨w.heap.size + 2, 0, none⟩ = false
 row : OwnG encI 1 3 (w.heap.size + 6) u (idsQ p s) W
 own : ∀ g, u.ownBlock = some g → g ∉ O
theorem AmQ.grown {w W W' : World} {v f u : Value} {p : Pl → Bool} {O O' bs : List Nat} {s : List Pl} (h : AmQ w v f p O s u W) (hg : GrownL bs W W') (hn : ∀ b ∈ bs, w.heap.size + 4 ≤ b) (hr : ∀ g, u.ownBlock = some g → g ∉ bs) (hO : ∀ o ∈ O', o ∈ O ∨ (W.heap.size ≤ o ∧ o < W'.heap.size)) : AmQ w v f p O' s u W' := by
 have nb : ∀ k, k ≤ w.heap.size + 3 → k ∉ bs := fun k hk hm => by have := hn k hm; omega
 refine ⟨fun o ho => ?_, hg.cell h.f (nb _ (by show w.heap.size + 1 ≤ _; omega)), ⟨h.kp.1.trans (hg.below (fun b hb => by have := hn b hb; omega) h.kp.1.size), hg.cell h.kp.2 (nb _ (Nat.le_refl _))⟩, hg.cell h.l (nb _ (by show w.heap.size + 2 ≤ _; omega)), (World.frozen?_of_block (hg.block _ (World.block_lt_of_cell? _ _ h.l) (nb _ (by show w.heap.size + 2 ≤ _; omega)))).trans h.lf, h.row.grown hg hr, fun g e hm => ?_⟩
 ·have := hg.size
  rcases hO o ho with h' | h'
  ·have := h.lt o h'; omega
  ·omega
 ·have := (h.row.lt g e).2
  rcases hO g hm with h' | h'
  ·exact h.own g e h'
  ·omega
theorem AmQ.drop {w W : World} {v f u : Value} {p : Pl → Bool} {O : List Nat} {s : List Pl} {x : Pl} (h : AmQ w v f p O s u W) (e : idsQ p (s ++ [x]) = idsQ p s) : AmQ w v f p O (s ++ [x]) u W :=
 ⟨h.lt, h.f, h.kp, h.l, h.lf, by rw [e]; exact h.row, h.own⟩
theorem AmQ.apart {w W W0 : World} {v f : Value} {p : Pl → Bool} {O : List Nat} {s : List Pl} {Au : Option Addr} {n cu : Nat} (h : AmQ w v f p O s (.slice Au n cu) W) (hl : ∀ q ∈ (Value.ownBlock (.slice Au n cu)).toList, w.heap.size + 6 ≤ q ∧ q < W.heap.size) (hz : W0.heap.size = w.heap.size + 4) (hO : From [] (W0.heap.size + 2) O)
  {o : Nat} (ho : o ∈ [W0.heap.size, W0.heap.size + 1] ++ O) (hm : o ∈ (w.heap.size + 2) :: (Value.ownBlock (.slice Au n cu)).toList) : False := by
 rcases List.mem_append.1 ho with h1 | h1
 ·rcases List.mem_cons.1 hm with h2 | h2
  ·simp at h1; omega
  ·have := hl o h2; simp at h1; omega
 ·have h3 : W0.heap.size + 2 ≤ o := by
   rcases hO o h1 with h' | h'
   ·cases h'
   ·exact h'
  rcases List.mem_cons.1 hm with h2 | h2
  ·omega
  ·exact h.own o (by simpa using h2) h1
theorem AmQ.next {w W W4 : World} {v f v' : Value} {p : Pl → Bool} {O : List Nat} {s : List Pl} {x : Pl} {Au : Option Addr} {n cu : Nat} (h : AmQ w v f p O s (.slice Au n cu) W) (g4 : GrownL (Value.ownBlock (.slice Au n cu)).toList W W4) (l4 : W4.cell? ⟨w.heap.size + 2, 0, none⟩ = some (.slice Au n cu)) (lf : W4.frozen? ⟨w.heap.size + 2, 0, none⟩ = false)
  (hl : ∀ q ∈ (Value.ownBlock (.slice Au n cu)).toList, w.heap.size + 6 ≤ q ∧ q < W.heap.size) (hr : OwnG encI 1 3 (w.heap.size + 6) v' (idsQ p (s ++ [x])) W4) (hat : v'.ownBlock = (Value.slice Au n cu).ownBlock ∨ v'.ownBlock = some (W.heap.size + 1)) : AmQ w v f p O (s ++ [x]) v' (W4.setCell ⟨w.heap.size + 2, 0, none⟩ v') := by
 have gs : GrownL [w.heap.size + 2] W4 (W4.setCell ⟨w.heap.size + 2, 0, none⟩ v') := GrownL.set _ _ _ (by simp)
 have G := g4.cons2 gs
 have nb : ∀ k, k ≤ w.heap.size + 3 → k ≠ w.heap.size + 2 → k ∉ (w.heap.size + 2) :: (Value.ownBlock (.slice Au n cu)).toList := fun k hk h2 hm => by
  rcases List.mem_cons.1 hm with e | hm
  ·exact h2 e
  ·have := (hl k hm).1; omega
 refine ⟨fun o ho => Nat.lt_of_lt_of_le (h.lt o ho) G.size, G.cell h.f (nb _ (by show w.heap.size + 1 ≤ _; omega) (by show w.heap.size + 1 ≠ _; omega)), ⟨h.kp.1.trans (G.below (fun b hb => ?_) h.kp.1.size), G.cell h.kp.2 (nb _ (Nat.le_refl _) (by show w.heap.size + 3 ≠ _; omega))⟩, World.cell?_setCell_same' _ _ _ (by rw [l4]; rfl), (World.frozen?_setCell _ _ _ _).trans lf, hr.grown gs (fun g e hm => ?_), fun g e hm => ?_⟩
 ·rcases List.mem_cons.1 hb with e | hb
  ·omega
  ·have := (hl b hb).1; omega
 ·have := (hr.lt g e).1; simp at hm; omega
 ·rcases hat with h' | h'
  ·exact h.own g (h' ▸ e) hm
  ·have := h.lt g hm
   rw [h'] at e
   simp at e
   omega

set_option maxHeartbeats 16000000 in
set_option maxRecDepth 1000000 in
theorem amongRests_any (A : Option Addr) (c : Nat) (ws : Wk) (q : Pl → Bool) (bc bw bi bf : Nat) (w : World) (h : RK w.heap.size (.slice A ws.length c) ws w) (ht : total ws ≤ 100000) (hl : ws.length ≤ 100000)
  (hcl : ∀ (n : Nat) (p : Pl) (W : World), (allP ws)[n]? = some p → Below w.heap.size w W → Calls Try.prog 126 #[.agg #[.int .i64 p.at_, .int .i64 p.c, .int .i64 p.n], ouV p.o, .pointer (some ⟨bc, 0, none⟩), .pointer (some ⟨bw, 0, none⟩), .pointer (some ⟨bi, 0, none⟩), .pointer (some ⟨bf, 0, none⟩)] W fun e w' => e = .returned (.bool (q p)) ∧ Below W.heap.size W w') :
  Calls Try.prog 104 #[.agg #[.slice A ws.length c], .func (.func 126) #[] #[.pointer (some ⟨bc, 0, none⟩), .pointer (some ⟨bw, 0, none⟩), .pointer (some ⟨bi, 0, none⟩), .pointer (some ⟨bf, 0, none⟩)]] w fun e w' => ∃ v, e = .returned v ∧ OwnG encI 1 3 w.heap.size v (idsQ q (allP ws)) w' ∧ Below w.heap.size w w' := by
 obtain ⟨i0, hz0, hj0, hj1, hj2⟩ := info_parts infoInt
 have H := Lib.hid h
 have HN := Lib.hid (And.intro ht hl)
 have HCL := Lib.hid hcl
 clear h ht hl hcl
 refine (callsIn_wide (n := 3)).1 ?_
 refine callsIn_of_wp_marks Try.func104 rfl trivial ?_ rfl
 simp only [Try.ntmps104, List.size_toArray, List.length_cons, List.length_nil, Nat.reduceAdd, Nat.reduceSub, Array.replicate_succ, Array.replicate_zero, List.push_toArray, List.append_toArray, List.nil_append, List.cons_append]
 gi_wp2_with fail
 refine ⟨trivial, (callsIn_wide.2 (places_any A ws.length c _)).mono ?_⟩
 rintro e w1 ⟨rfl, rfl⟩
 obtain ⟨W0, hW0⟩ : ∃ W0, ((((w.alloc (.cells #[.slice A ws.length c] 24)).alloc (.cells #[.func (.func 126) #[] #[.pointer (some ⟨bc, 0, none⟩), .pointer (some ⟨bw, 0, none⟩), .pointer (some ⟨bi, 0, none⟩), .pointer (some ⟨bf, 0, none⟩)]] 154)).alloc (.cells #[.slice none 0 0] 25)).alloc (.cells #[.slice A ws.length c] 24)) = W0 := ⟨_, rfl⟩
 have hz0' : W0.heap.size = w.heap.size + 4 := by rw [← hW0]; simp
 have hb2 : Below w.heap.size w W0 := by rw [← hW0]; exact ((((Below.refl _ _).alloc (Nat.le_refl _) _).alloc (by simp) _).alloc (by simp; omega) _).alloc (by simp; omega) _
 have I0 : Hid (AmQ w (.slice A ws.length c) (.func (.func 126) #[] #[.pointer (some ⟨bc, 0, none⟩), .pointer (some ⟨bw, 0, none⟩), .pointer (some ⟨bi, 0, none⟩), .pointer (some ⟨bf, 0, none⟩)]) q [] [] (.slice none 0 0) W0) := Lib.hid ⟨by simp, by rw [← hW0]; simp [go_sem], ⟨hb2, by rw [← hW0]; simp [go_sem]⟩, by rw [← hW0]; simp [go_sem], by rw [← hW0]; simp [go_sem], OwnG.nil _ _ _ _ _, fun g e => by cases e⟩
 have HZ := Lib.hid hz0'
 gi_wp2_with fail
 try rw [hW0]
 refine wpIn_rangeK (gf := 132) (lb := #[.pointer (some ⟨w.heap.size + 1 + 1 + 1, 0, none⟩)]) rfl enters_places1
  (places_seq w W0 (w.heap.size + 3) A ws.length c ws H.out (by have := HN.out; omega) (by have := HN.out; omega)) (Below.refl _ _) (fun o ho => by cases ho) (fun _ => rfl)
  (fun O s W => ∃ u, AmQ w (.slice A ws.length c) (.func (.func 126) #[] #[.pointer (some ⟨bc, 0, none⟩), .pointer (some ⟨bw, 0, none⟩), .pointer (some ⟨bi, 0, none⟩), .pointer (some ⟨bf, 0, none⟩)]) q O s u W) (fun _ _ _ _ => False) (fun _ _ _ h => by obtain ⟨_, h⟩ := h; exact h.kp) ?h0 ?hI (fun _ _ _ _ _ _ h _ => h) ?round ?done ?stop
 case h0 =>
  intro W' hb hsz
  exact ⟨_, I0.out.grown (bs := []) (GrownL.of_below hb) (by simp) (by simp) (fun o ho => by cases ho)⟩
 case hI =>
  rintro O O' s W1 W2 hO ⟨u, hi⟩ hg hcl
  refine ⟨u, hi.grown hg (fun b hb => ?_) (fun g e hm => ?_) hcl⟩
  ·rcases List.mem_cons.1 hb with e | hb
   ·omega
   rcases List.mem_cons.1 hb with e | hb
   ·omega
   ·rcases hO _ hb with h | h
    ·cases h
    ·omega
  ·have := (hi.row.lt g e).1
   rcases List.mem_cons.1 hm with e' | hm
   ·omega
   rcases List.mem_cons.1 hm with e' | hm
   ·omega
   ·exact hi.own g e hm
 case round =>
  rintro O pre x W hO ⟨u, hi⟩ hsz hsp
  have HSP := Lib.hid (pl_os hsp)
  have HSN := Lib.hid (sp_next hsp)
  clear hsp
  have HI := Lib.hid hi
  obtain ⟨Au, cu, rfl, -⟩ := hi.row.form
  have HOO := Lib.hid hO
  clear hi hO
  obtain ⟨xa, xc, xn, x⟩ := x
  dsimp only [encP]
  gi_wp2_with fail
  refine ⟨Keeps.of_below (((Below.refl _ _).alloc (Nat.le_refl _) _).alloc (by simp) _), fun W2 hg2 hl2 => ?_⟩
  have hwz : w.heap.size + 6 ≤ W.heap.size := by omega
  have hne : ∀ k, W.heap.size ≤ k → k ∉ [W0.heap.size + 1] := fun k hk hm => by rw [List.mem_singleton] at hm; omega
  have g0 : GrownL (([] : List Nat)) W _ := GrownL.of_below (((Below.refl W.heap.size W).alloc (Nat.le_refl _) (.cells #[.int .i64 xa, .int .i64 xc, .int .i64 xn] 133)).alloc (by simp) (.cells #[.int .i64 x.id, .int .i64 x.into, .slice x.pa x.ps.length x.pc, .int .i64 x.k0, .int .i64 x.k1, .int .i64 x.s0, .int .i64 x.s1] 42))
  have HI2 : Hid (AmQ w (.slice A ws.length c) (.func (.func 126) #[] #[.pointer (some ⟨bc, 0, none⟩), .pointer (some ⟨bw, 0, none⟩), .pointer (some ⟨bi, 0, none⟩), .pointer (some ⟨bf, 0, none⟩)]) q O pre _ W2) := Lib.hid ((HI.out.grown (O' := O) g0 (by simp) (by simp) (fun o ho => .inl ho)).grown (O' := O) hg2 (by simp <;> omega) (fun g e hm => by have := (HI.out.row.lt g e).1; have := HZ.out; simp at hm; omega) (fun o ho => .inl ho))
  have p0 : W2.cell? ⟨W.heap.size, 0, none⟩ = some (.int .i64 xa) := hg2.cell (p := ⟨W.heap.size, 0, none⟩) (by simp [go_sem]) (hne _ (Nat.le_refl _))
  have p1 : W2.cell? ⟨W.heap.size, 1, none⟩ = some (.int .i64 xc) := hg2.cell (p := ⟨W.heap.size, 1, none⟩) (by simp [go_sem]) (hne _ (Nat.le_refl _))
  have p2 : W2.cell? ⟨W.heap.size, 2, none⟩ = some (.int .i64 xn) := hg2.cell (p := ⟨W.heap.size, 2, none⟩) (by simp [go_sem]) (hne _ (Nat.le_refl _))
  have o0 : W2.cell? ⟨W.heap.size + 1, 0, none⟩ = some (.int .i64 x.id) := hg2.cell (p := ⟨W.heap.size + 1, 0, none⟩) (by simp [go_sem]) (hne _ (by simp))
  have o1 : W2.cell? ⟨W.heap.size + 1, 1, none⟩ = some (.int .i64 x.into) := hg2.cell (p := ⟨W.heap.size + 1, 1, none⟩) (by simp [go_sem]) (hne _ (by simp))
  have o2 : W2.cell? ⟨W.heap.size + 1, 2, none⟩ = some (.slice x.pa x.ps.length x.pc) := hg2.cell (p := ⟨W.heap.size + 1, 2, none⟩) (by simp [go_sem]) (hne _ (by simp))
  have o3 : W2.cell? ⟨W.heap.size + 1, 3, none⟩ = some (.int .i64 x.k0) := hg2.cell (p := ⟨W.heap.size + 1, 3, none⟩) (by simp [go_sem]) (hne _ (by simp))
  have o4 : W2.cell? ⟨W.heap.size + 1, 4, none⟩ = some (.int .i64 x.k1) := hg2.cell (p := ⟨W.heap.size + 1, 4, none⟩) (by simp [go_sem]) (hne _ (by simp))
  have o5 : W2.cell? ⟨W.heap.size + 1, 5, none⟩ = some (.int .i64 x.s0) := hg2.cell (p := ⟨W.heap.size + 1, 5, none⟩) (by simp [go_sem]) (hne _ (by simp))
  have o6 : W2.cell? ⟨W.heap.size + 1, 6, none⟩ = some (.int .i64 x.s1) := hg2.cell (p := ⟨W.heap.size + 1, 6, none⟩) (by simp [go_sem]) (hne _ (by simp))
  have f0 := HI2.out.f
  obtain ⟨n, hxn, -, -, -⟩ := HSN.out
  have C := HCL.out n ⟨xa, xc, xn, x⟩ W2 hxn (HI2.out.kp.1)
  obtain ⟨bq, hbq⟩ : ∃ bq, q ⟨xa, xc, xn, x⟩ = bq := ⟨_, rfl⟩
  have HBQ := Lib.hid hbq
  rw [hbq] at C
  simp only at C
  have HWS : Hid (W.heap.size + 2 ≤ W2.heap.size) := Lib.hid (World.block_lt_of_cell? _ _ o0)
  have HWZ := Lib.hid hwz
  have OI := Lib.hid o0
  clear hg2 hl2 hne g0 hsz hwz hbq hxn
  gi_wp2_with fail
  refine ⟨trivial, (CallsIn.inRound _ (callsIn_wide.2 C)).mono ?_⟩
  rintro e W3 ⟨rfl, b3⟩
  have HI3 : Hid (AmQ w (.slice A ws.length c) (.func (.func 126) #[] #[.pointer (some ⟨bc, 0, none⟩), .pointer (some ⟨bw, 0, none⟩), .pointer (some ⟨bi, 0, none⟩), .pointer (some ⟨bf, 0, none⟩)]) q O pre _ W3) := Lib.hid (HI2.out.grown (O' := O) (GrownL.of_below (bs := []) b3) (by simp) (by simp) (fun o ho => .inl ho))
  have o0 := (b3.cell (p := ⟨W.heap.size + 1, 0, none⟩) (by have := HWS.out; show W.heap.size + 1 < _; omega)).trans OI.out
  have K3 : Hid (Keeps ([W0.heap.size, W0.heap.size + 1] ++ O) W2 W3) := Lib.hid (Keeps.of_below b3)
  have HWS3 := Lib.hid (Nat.le_trans HWS.out b3.size)
  obtain ⟨l, hl⟩ : ∃ l, idsQ q pre = l := ⟨_, rfl⟩
  have HL := Lib.hid hl
  have hlb : l.length ≤ 100000 := by
   rw [← hl]
   have := idsQ_len q pre
   have h2 := HSP.out
   have := HN.out.1
   simp at h2
   omega
  rw [hl] at HI3
  clear hl
  obtain ⟨n, hn⟩ : ∃ n, l.length = n := ⟨_, rfl⟩
  have HNL := Lib.hid hn
  rw [hn] at HI3 hlb
  clear o1 o2 o3 o4 o5 o6 p0 p1 p2 f0 C b3 HI2 hn
  rcases bq with _ | _
  rotate_left
  ·have l0 : W3.cell? ⟨w.heap.size + 1 + 1, 0, none⟩ = some (.slice Au n cu) := HI3.out.l
   have R3 : Hid (W3.ownsRow (w.heap.size + 6) 3 1 (.slice Au n cu) n (l.flatMap encI)) := Lib.hid (by have := HI3.out.row; unfold OwnG at this; rwa [HL.out, HNL.out] at this)
   have hbs : w.heap.size + 6 ≤ W3.heap.size := by have := HWS3.out; have := HWZ.out; omega
   gi_wp2_with (gi_at_builtin; refine wpListIn_append_own_at _ rfl _ _ 25 rfl (w.heap.size + 6) 3 i0 (.int .i64 0) 1 8 Try.underlying25 hz0 hj0 hj1 hj2 rfl (by decide) _ n _ rfl (R3.out.alloc _) ⟨W3.heap.size, 0, none⟩ 1 1 [.int .i64 x.id] rfl rfl (fun i u hi => one_news W3 (.int .i64 x.id) 3 i u hi) (fun u hu => one_one x.id u hu) ?c3 ?c4 ?c5 ?_)
   case c3 => unfold maxLen; omega
   case c4 => omega
   case c5 => first | (simp <;> omega) | omega
   intro v' w4 hown' hgrow _ hat
   have HLT := Lib.hid fun q (hq : q ∈ (Value.ownBlock (.slice Au n cu)).toList) => R3.out.lt q (by simpa using hq)
   have G4 := Lib.hid ((GrownL.of_below (bs := (Value.ownBlock (.slice Au n cu)).toList) ((Below.refl W3.heap.size W3).alloc (Nat.le_refl _) (.cells #[.int .i64 x.id] 3))).trans (GrownL.of_row hgrow))
   have R4 : Hid (OwnG encI 1 3 (w.heap.size + 6) v' (idsQ q (pre ++ [⟨xa, xc, xn, x⟩])) w4) := Lib.hid (by
    rw [idsQ_keep pre (x := ⟨xa, xc, xn, x⟩) HBQ.out, HL.out]
    unfold OwnG
    rw [List.flatMap_append, List.length_append, HNL.out]
    exact hown')
   have l4 : w4.cell? ⟨w.heap.size + 1 + 1, 0, none⟩ = some (.slice Au n cu) := G4.out.cell l0 (fun hm => by have h9 : w.heap.size + 6 ≤ w.heap.size + 1 + 1 := (HLT.out _ hm).1; omega)
   have lf : w4.frozen? ⟨w.heap.size + 1 + 1, 0, none⟩ = false := (World.frozen?_of_block (G4.out.block _ (World.block_lt_of_cell? _ _ l0) (fun hm => by have h9 : w.heap.size + 6 ≤ w.heap.size + 1 + 1 := (HLT.out _ hm).1; omega))).trans HI3.out.lf
   have HAt := Lib.hid hat
   have L4 := Lib.hid l4
   have LF := Lib.hid lf
   clear hown' hgrow l0 hat
   obtain ⟨Av', cv', rfl, -⟩ := R4.out.form
   gi_wp2_with fail
   exact ⟨K3.out.trans (Keeps.of_grown (G4.out.cons2 (W5 := w4.setCell ⟨w.heap.size + 2, 0, none⟩ _) (GrownL.set w4 ⟨w.heap.size + 2, 0, none⟩ _ (by simp))) (fun o ho hm => AmQ.apart HI3.out HLT.out (HZ.out) HOO.out ho hm)), _, HI3.out.next G4.out L4.out LF.out HLT.out R4.out HAt.out⟩

  ·gi_wp2_with fail
   exact ⟨K3.out, _, HI3.out.drop (idsQ_drop pre (x := ⟨xa, xc, xn, x⟩) HBQ.out)⟩
 case done =>
  rintro O xs W hO hS ⟨u, hi⟩ hD hK
  obtain rfl : xs = allP ws := hS
  obtain ⟨Au, cu, rfl, -⟩ := hi.row.form
  have HI := Lib.hid hi
  have HKK := Lib.hid hK
  have l0 := hi.l
  clear hi hD hK
  gi_wp2_with fail
  refine ⟨by simp, .inl ⟨_, _, rfl, run_takeDeferred HKK.out, ?_⟩⟩
  refine ⟨_, results_tmp rfl _ _ _, ?_⟩
  have gp : GrownL [W0.heap.size] W (W.putObj W0.heap.size (.deferred none)) := GrownL.putObj (bs := [W0.heap.size]) W W0.heap.size (.deferred none) (by simp)
  have ho : OwnG encI 1 3 (w.heap.size + 6) (.slice Au (idsQ q (allP ws)).length cu) (idsQ q (allP ws)) (W.putObj W0.heap.size (.deferred none)) := HI.out.row.grown gp (fun g hg hm => by have := (HI.out.row.lt g hg).1; have := HZ.out; simp at hm; omega)
  exact ⟨_, rfl, ho.low (by omega), HI.out.kp.1.trans (gp.below (by have := HZ.out; simp; omega) HI.out.kp.1.size)⟩
 case stop =>
  rintro c O pre W hO _ h _
  exact h.elim
set_option maxHeartbeats 16000000 in
set_option maxRecDepth 1000000 in
theorem amongBelow_any (A : Option Addr) (c : Nat) (ws : Wk) (q : Pl → Bool) (bm bi : Nat) (w : World) (h : RK w.heap.size (.slice A ws.length c) ws w) (ht : total ws ≤ 100000) (hl : ws.length ≤ 100000)
  (hcl : ∀ (n : Nat) (p : Pl) (W : World), (allP ws)[n]? = some p → Below w.heap.size w W → Calls Try.prog 111 #[.agg #[.int .i64 p.at_, .int .i64 p.c, .int .i64 p.n], ouV p.o, .pointer (some ⟨bm, 0, none⟩), .pointer (some ⟨bi, 0, none⟩)] W fun e w' => e = .returned (.bool (q p)) ∧ Below W.heap.size W w') :
  Calls Try.prog 104 #[.agg #[.slice A ws.length c], .func (.func 111) #[] #[.pointer (some ⟨bm, 0, none⟩), .pointer (some ⟨bi, 0, none⟩)]] w fun e w' => ∃ v, e = .returned v ∧ OwnG encI 1 3 w.heap.size v (idsQ q (allP ws)) w' ∧ Below w.heap.size w w' := by
 obtain ⟨i0, hz0, hj0, hj1, hj2⟩ := info_parts infoInt
 have H := Lib.hid h
 have HN := Lib.hid (And.intro ht hl)
 have HCL := Lib.hid hcl
 clear h ht hl hcl
 refine (callsIn_wide (n := 3)).1 ?_
 refine callsIn_of_wp_marks Try.func104 rfl trivial ?_ rfl
 simp only [Try.ntmps104, List.size_toArray, List.length_cons, List.length_nil, Nat.reduceAdd, Nat.reduceSub, Array.replicate_succ, Array.replicate_zero, List.push_toArray, List.append_toArray, List.nil_append, List.cons_append]
 gi_wp2_with fail
 refine ⟨trivial, (callsIn_wide.2 (places_any A ws.length c _)).mono ?_⟩
 rintro e w1 ⟨rfl, rfl⟩
 obtain ⟨W0, hW0⟩ : ∃ W0, ((((w.alloc (.cells #[.slice A ws.length c] 24)).alloc (.cells #[.func (.func 111) #[] #[.pointer (some ⟨bm, 0, none⟩), .pointer (some ⟨bi, 0, none⟩)]] 154)).alloc (.cells #[.slice none 0 0] 25)).alloc (.cells #[.slice A ws.length c] 24)) = W0 := ⟨_, rfl⟩
 have hz0' : W0.heap.size = w.heap.size + 4 := by rw [← hW0]; simp
 have hb2 : Below w.heap.size w W0 := by rw [← hW0]; exact ((((Below.refl _ _).alloc (Nat.le_refl _) _).alloc (by simp) _).alloc (by simp; omega) _).alloc (by simp; omega) _
 have I0 : Hid (AmQ w (.slice A ws.length c) (.func (.func 111) #[] #[.pointer (some ⟨bm, 0, none⟩), .pointer (some ⟨bi, 0, none⟩)]) q [] [] (.slice none 0 0) W0) := Lib.hid ⟨by simp, by rw [← hW0]; simp [go_sem], ⟨hb2, by rw [← hW0]; simp [go_sem]⟩, by rw [← hW0]; simp [go_sem], by rw [← hW0]; simp [go_sem], OwnG.nil _ _ _ _ _, fun g e => by cases e⟩
 have HZ := Lib.hid hz0'
 gi_wp2_with fail
 try rw [hW0]
 refine wpIn_rangeK (gf := 132) (lb := #[.pointer (some ⟨w.heap.size + 1 + 1 + 1, 0, none⟩)]) rfl enters_places1
  (places_seq w W0 (w.heap.size + 3) A ws.length c ws H.out (by have := HN.out; omega) (by have := HN.out; omega)) (Below.refl _ _) (fun o ho => by cases ho) (fun _ => rfl)
  (fun O s W => ∃ u, AmQ w (.slice A ws.length c) (.func (.func 111) #[] #[.pointer (some ⟨bm, 0, none⟩), .pointer (some ⟨bi, 0, none⟩)]) q O s u W) (fun _ _ _ _ => False) (fun _ _ _ h => by obtain ⟨_, h⟩ := h; exact h.kp) ?h0 ?hI (fun _ _ _ _ _ _ h _ => h) ?round ?done ?stop
 case h0 =>
  intro W' hb hsz
  exact ⟨_, I0.out.grown (bs := []) (GrownL.of_below hb) (by simp) (by simp) (fun o ho => by cases ho)⟩
 case hI =>
  rintro O O' s W1 W2 hO ⟨u, hi⟩ hg hcl
  refine ⟨u, hi.grown hg (fun b hb => ?_) (fun g e hm => ?_) hcl⟩
  ·rcases List.mem_cons.1 hb with e | hb
   ·omega
   rcases List.mem_cons.1 hb with e | hb
   ·omega
   ·rcases hO _ hb with h | h
    ·cases h
    ·omega
  ·have := (hi.row.lt g e).1
   rcases List.mem_cons.1 hm with e' | hm
   ·omega
   rcases List.mem_cons.1 hm with e' | hm
   ·omega
   ·exact hi.own g e hm
 case round =>
  rintro O pre x W hO ⟨u, hi⟩ hsz hsp
  have HSP := Lib.hid (pl_os hsp)
  have HSN := Lib.hid (sp_next hsp)
  clear hsp
  have HI := Lib.hid hi
  obtain ⟨Au, cu, rfl, -⟩ := hi.row.form
  have HOO := Lib.hid hO
  clear hi hO
  obtain ⟨xa, xc, xn, x⟩ := x
  dsimp only [encP]
  gi_wp2_with fail
  refine ⟨Keeps.of_below (((Below.refl _ _).alloc (Nat.le_refl _) _).alloc (by simp) _), fun W2 hg2 hl2 => ?_⟩
  have hwz : w.heap.size + 6 ≤ W.heap.size := by omega
  have hne : ∀ k, W.heap.size ≤ k → k ∉ [W0.heap.size + 1] := fun k hk hm => by rw [List.mem_singleton] at hm; omega
  have g0 : GrownL (([] : List Nat)) W _ := GrownL.of_below (((Below.refl W.heap.size W).alloc (Nat.le_refl _) (.cells #[.int .i64 xa, .int .i64 xc, .int .i64 xn] 133)).alloc (by simp) (.cells #[.int .i64 x.id, .int .i64 x.into, .slice x.pa x.ps.length x.pc, .int .i64 x.k0, .int .i64 x.k1, .int .i64 x.s0, .int .i64 x.s1] 42))
  have HI2 : Hid (AmQ w (.slice A ws.length c) (.func (.func 111) #[] #[.pointer (some ⟨bm, 0, none⟩), .pointer (some ⟨bi, 0, none⟩)]) q O pre _ W2) := Lib.hid ((HI.out.grown (O' := O) g0 (by simp) (by simp) (fun o ho => .inl ho)).grown (O' := O) hg2 (by simp <;> omega) (fun g e hm => by have := (HI.out.row.lt g e).1; have := HZ.out; simp at hm; omega) (fun o ho => .inl ho))
  have p0 : W2.cell? ⟨W.heap.size, 0, none⟩ = some (.int .i64 xa) := hg2.cell (p := ⟨W.heap.size, 0, none⟩) (by simp [go_sem]) (hne _ (Nat.le_refl _))
  have p1 : W2.cell? ⟨W.heap.size, 1, none⟩ = some (.int .i64 xc) := hg2.cell (p := ⟨W.heap.size, 1, none⟩) (by simp [go_sem]) (hne _ (Nat.le_refl _))
  have p2 : W2.cell? ⟨W.heap.size, 2, none⟩ = some (.int .i64 xn) := hg2.cell (p := ⟨W.heap.size, 2, none⟩) (by simp [go_sem]) (hne _ (Nat.le_refl _))
  have o0 : W2.cell? ⟨W.heap.size + 1, 0, none⟩ = some (.int .i64 x.id) := hg2.cell (p := ⟨W.heap.size + 1, 0, none⟩) (by simp [go_sem]) (hne _ (by simp))
  have o1 : W2.cell? ⟨W.heap.size + 1, 1, none⟩ = some (.int .i64 x.into) := hg2.cell (p := ⟨W.heap.size + 1, 1, none⟩) (by simp [go_sem]) (hne _ (by simp))
  have o2 : W2.cell? ⟨W.heap.size + 1, 2, none⟩ = some (.slice x.pa x.ps.length x.pc) := hg2.cell (p := ⟨W.heap.size + 1, 2, none⟩) (by simp [go_sem]) (hne _ (by simp))
  have o3 : W2.cell? ⟨W.heap.size + 1, 3, none⟩ = some (.int .i64 x.k0) := hg2.cell (p := ⟨W.heap.size + 1, 3, none⟩) (by simp [go_sem]) (hne _ (by simp))
  have o4 : W2.cell? ⟨W.heap.size + 1, 4, none⟩ = some (.int .i64 x.k1) := hg2.cell (p := ⟨W.heap.size + 1, 4, none⟩) (by simp [go_sem]) (hne _ (by simp))
  have o5 : W2.cell? ⟨W.heap.size + 1, 5, none⟩ = some (.int .i64 x.s0) := hg2.cell (p := ⟨W.heap.size + 1, 5, none⟩) (by simp [go_sem]) (hne _ (by simp))
  have o6 : W2.cell? ⟨W.heap.size + 1, 6, none⟩ = some (.int .i64 x.s1) := hg2.cell (p := ⟨W.heap.size + 1, 6, none⟩) (by simp [go_sem]) (hne _ (by simp))
  have f0 := HI2.out.f
  obtain ⟨n, hxn, -, -, -⟩ := HSN.out
  have C := HCL.out n ⟨xa, xc, xn, x⟩ W2 hxn (HI2.out.kp.1)
  obtain ⟨bq, hbq⟩ : ∃ bq, q ⟨xa, xc, xn, x⟩ = bq := ⟨_, rfl⟩
  have HBQ := Lib.hid hbq
  rw [hbq] at C
  simp only at C
  have HWS : Hid (W.heap.size + 2 ≤ W2.heap.size) := Lib.hid (World.block_lt_of_cell? _ _ o0)
  have HWZ := Lib.hid hwz
  have OI := Lib.hid o0
  clear hg2 hl2 hne g0 hsz hwz hbq hxn
  gi_wp2_with fail
  refine ⟨trivial, (CallsIn.inRound _ (callsIn_wide.2 C)).mono ?_⟩
  rintro e W3 ⟨rfl, b3⟩
  have HI3 : Hid (AmQ w (.slice A ws.length c) (.func (.func 111) #[] #[.pointer (some ⟨bm, 0, none⟩), .pointer (some ⟨bi, 0, none⟩)]) q O pre _ W3) := Lib.hid (HI2.out.grown (O' := O) (GrownL.of_below (bs := []) b3) (by simp) (by simp) (fun o ho => .inl ho))
  have o0 := (b3.cell (p := ⟨W.heap.size + 1, 0, none⟩) (by have := HWS.out; show W.heap.size + 1 < _; omega)).trans OI.out
  have K3 : Hid (Keeps ([W0.heap.size, W0.heap.size + 1] ++ O) W2 W3) := Lib.hid (Keeps.of_below b3)
  have HWS3 := Lib.hid (Nat.le_trans HWS.out b3.size)
  obtain ⟨l, hl⟩ : ∃ l, idsQ q pre = l := ⟨_, rfl⟩
  have HL := Lib.hid hl
  have hlb : l.length ≤ 100000 := by
   rw [← hl]
   have := idsQ_len q pre
   have h2 := HSP.out
   have := HN.out.1
   simp at h2
   omega
  rw [hl] at HI3
  clear hl
  obtain ⟨n, hn⟩ : ∃ n, l.length = n := ⟨_, rfl⟩
  have HNL := Lib.hid hn
  rw [hn] at HI3 hlb
  clear o1 o2 o3 o4 o5 o6 p0 p1 p2 f0 C b3 HI2 hn
  rcases bq with _ | _
  rotate_left
  ·have l0 : W3.cell? ⟨w.heap.size + 1 + 1, 0, none⟩ = some (.slice Au n cu) := HI3.out.l
   have R3 : Hid (W3.ownsRow (w.heap.size + 6) 3 1 (.slice Au n cu) n (l.flatMap encI)) := Lib.hid (by have := HI3.out.row; unfold OwnG at this; rwa [HL.out, HNL.out] at this)
   have hbs : w.heap.size + 6 ≤ W3.heap.size := by have := HWS3.out; have := HWZ.out; omega
   gi_wp2_with (gi_at_builtin; refine wpListIn_append_own_at _ rfl _ _ 25 rfl (w.heap.size + 6) 3 i0 (.int .i64 0) 1 8 Try.underlying25 hz0 hj0 hj1 hj2 rfl (by decide) _ n _ rfl (R3.out.alloc _) ⟨W3.heap.size, 0, none⟩ 1 1 [.int .i64 x.id] rfl rfl (fun i u hi => one_news W3 (.int .i64 x.id) 3 i u hi) (fun u hu => one_one x.id u hu) ?c3 ?c4 ?c5 ?_)
   case c3 => unfold maxLen; omega
   case c4 => omega
   case c5 => first | (simp <;> omega) | omega
   intro v' w4 hown' hgrow _ hat
   have HLT := Lib.hid fun q (hq : q ∈ (Value.ownBlock (.slice Au n cu)).toList) => R3.out.lt q (by simpa using hq)
   have G4 := Lib.hid ((GrownL.of_below (bs := (Value.ownBlock (.slice Au n cu)).toList) ((Below.refl W3.heap.size W3).alloc (Nat.le_refl _) (.cells #[.int .i64 x.id] 3))).trans (GrownL.of_row hgrow))
   have R4 : Hid (OwnG encI 1 3 (w.heap.size + 6) v' (idsQ q (pre ++ [⟨xa, xc, xn, x⟩])) w4) := Lib.hid (by
    rw [idsQ_keep pre (x := ⟨xa, xc, xn, x⟩) HBQ.out, HL.out]
    unfold OwnG
    rw [List.flatMap_append, List.length_append, HNL.out]
    exact hown')
   have l4 : w4.cell? ⟨w.heap.size + 1 + 1, 0, none⟩ = some (.slice Au n cu) := G4.out.cell l0 (fun hm => by have h9 : w.heap.size + 6 ≤ w.heap.size + 1 + 1 := (HLT.out _ hm).1; omega)
   have lf : w4.frozen? ⟨w.heap.size + 1 + 1, 0, none⟩ = false := (World.frozen?_of_block (G4.out.block _ (World.block_lt_of_cell? _ _ l0) (fun hm => by have h9 : w.heap.size + 6 ≤ w.heap.size + 1 + 1 := (HLT.out _ hm).1; omega))).trans HI3.out.lf
   have HAt := Lib.hid hat
   have L4 := Lib.hid l4
   have LF := Lib.hid lf
   clear hown' hgrow l0 hat
   obtain ⟨Av', cv', rfl, -⟩ := R4.out.form
   gi_wp2_with fail
   exact ⟨K3.out.trans (Keeps.of_grown (G4.out.cons2 (W5 := w4.setCell ⟨w.heap.size + 2, 0, none⟩ _) (GrownL.set w4 ⟨w.heap.size + 2, 0, none⟩ _ (by simp))) (fun o ho hm => AmQ.apart HI3.out HLT.out (HZ.out) HOO.out ho hm)), _, HI3.out.next G4.out L4.out LF.out HLT.out R4.out HAt.out⟩

  ·gi_wp2_with fail
   exact ⟨K3.out, _, HI3.out.drop (idsQ_drop pre (x := ⟨xa, xc, xn, x⟩) HBQ.out)⟩
 case done =>
  rintro O xs W hO hS ⟨u, hi⟩ hD hK
  obtain rfl : xs = allP ws := hS
  obtain ⟨Au, cu, rfl, -⟩ := hi.row.form
  have HI := Lib.hid hi
  have HKK := Lib.hid hK
  have l0 := hi.l
  clear hi hD hK
  gi_wp2_with fail
  refine ⟨by simp, .inl ⟨_, _, rfl, run_takeDeferred HKK.out, ?_⟩⟩
  refine ⟨_, results_tmp rfl _ _ _, ?_⟩
  have gp : GrownL [W0.heap.size] W (W.putObj W0.heap.size (.deferred none)) := GrownL.putObj (bs := [W0.heap.size]) W W0.heap.size (.deferred none) (by simp)
  have ho : OwnG encI 1 3 (w.heap.size + 6) (.slice Au (idsQ q (allP ws)).length cu) (idsQ q (allP ws)) (W.putObj W0.heap.size (.deferred none)) := HI.out.row.grown gp (fun g hg hm => by have := (HI.out.row.lt g hg).1; have := HZ.out; simp at hm; omega)
  exact ⟨_, rfl, ho.low (by omega), HI.out.kp.1.trans (gp.below (by have := HZ.out; simp; omega) HI.out.kp.1.size)⟩
 case stop =>
  rintro c O pre W hO _ h _
  exact h.elim
end Go.Proofs.Ytkoacclbempmdaa
