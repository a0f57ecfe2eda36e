/- Contract of among. -/
import Derived.Test.YtkoacclbempmdaaGH
namespace Go.Proofs.Ytkoacclbempmdaa
open Go.RowKit
attribute [local go_sem] Oper.semAt_some

theorem outletsSays (xa xc xn : Nat) (x : Ou) (w : World) : Calls Try.prog 105 #[.agg #[.int .i64 xa, .int .i64 xc, .int .i64 xn], ouV x] w fun e w' => e = .returned (.bool true) ∧ Below w.heap.size w w' := by
 go_enter Try.func105, Try.ntmps105
 go_wp2_with fail
 go_ret
 exact ⟨rfl, ((Below.refl _ _).alloc (Nat.le_refl _) _).alloc (by simp) _⟩
theorem bedsSays (xa xc xn : Nat) (x : Ou) (w : World) : Calls Try.prog 107 #[.agg #[.int .i64 xa, .int .i64 xc, .int .i64 xn], ouV x] w fun e w' => e = .returned (.bool (decide (x.into < 0))) ∧ Below w.heap.size w w' := by
 go_enter Try.func107, Try.ntmps107
 go_wp2_with fail
 go_ret
 exact ⟨rfl, ((Below.refl _ _).alloc (Nat.le_refl _) _).alloc (by simp) _⟩

theorem pl_os {ws : Wk} {s : List Pl} {x : Pl} (h : SomePl ws (s ++ [x])) : (s ++ [x]).length ≤ total ws := by
 obtain ⟨i, hi, e⟩ := h
 rw [e, List.length_take]
 omega
/-- The numbers of those that a function says. -/
def idsP (p : Ou → Bool) (s : List Pl) : List Int := idsL p (s.map fun q => q.o)
theorem idsP_keep {p : Ou → Bool} (s : List Pl) {x : Pl} (h : p x.o = true) : idsP p (s ++ [x]) = idsP p s ++ [x.o.id] := by simp [idsP, idsL, h]
theorem idsP_drop {p : Ou → Bool} (s : List Pl) {x : Pl} (h : p x.o = false) : idsP p (s ++ [x]) = idsP p s := by simp [idsP, idsL, h]
theorem idsP_len (p : Ou → Bool) (s : List Pl) : (idsP p s).length ≤ s.length := Nat.le_trans (idsL_len _ _) (by simp)
/-- What the loop of among keeps. -/
structure AmI (w : World) (v f : Value) (p : Ou → Bool) (O : List Nat) (s : List Pl) (u : Value) (W : World) : Prop where
 lt : ∀ o ∈ O, o < W.heap.size
 f : W.cell? ⟨w.heap.size + 1, 0, none⟩ = some f
 kp : KP w (w.heap.size + 3) v W
 l : W.cell? ⟨w.heap.size + 2, 0, none⟩ = some u
 lf : W.frozen? ⟨w.heap.size + 2, 0, none⟩ = false
 row : OwnG encI 1 3 (w.heap.size + 6) u (idsP p s) W
 own : ∀ g, u.ownBlock = some g → g ∉ O
theorem AmI.grown {w W W' : World} {v f u : Value} {p : Ou → Bool} {O O' bs : List Nat} {s : List Pl} (h : AmI w v f p O s u W) (hg : GrownL bs W W') (hn : ∀ b ∈ bs, w.heap.size + 4 ≤ b) (hr : ∀ g, u.ownBlock = some g → g ∉ bs) (hO : ∀ o ∈ O', o ∈ O ∨ (W.heap.size ≤ o ∧ o < W'.heap.size)) : AmI w v f p O' s u W' := by
 have nb : ∀ k, k ≤ w.heap.size + 3 → k ∉ bs := fun k hk hm => by have := hn k hm; omega
 refine ⟨fun o ho => ?_, hg.cell h.f (nb _ (by show w.heap.size + 1 ≤ _; omega)), ⟨h.kp.1.trans (hg.below (fun b hb => by have := hn b hb; omega) h.kp.1.size), hg.cell h.kp.2 (nb _ (Nat.le_refl _))⟩, hg.cell h.l (nb _ (by show w.heap.size + 2 ≤ _; omega)), (World.frozen?_of_block (hg.block _ (World.block_lt_of_cell? _ _ h.l) (nb _ (by show w.heap.size + 2 ≤ _; omega)))).trans h.lf, h.row.grown hg hr, fun g e hm => ?_⟩
 ·have := hg.size
  rcases hO o ho with h' | h'
  ·have := h.lt o h'; omega
  ·omega
 ·have := (h.row.lt g e).2
  rcases hO g hm with h' | h'
  ·exact h.own g e h'
  ·omega
theorem AmI.drop {w W : World} {v f u : Value} {p : Ou → Bool} {O : List Nat} {s : List Pl} {x : Pl} (h : AmI w v f p O s u W) (e : idsP p (s ++ [x]) = idsP p s) : AmI w v f p O (s ++ [x]) u W :=
 ⟨h.lt, h.f, h.kp, h.l, h.lf, by rw [e]; exact h.row, h.own⟩
theorem GrownL.cons2 {w W W5 : World} {B : Nat} {bs : List Nat} (h : GrownL bs w W) (k : GrownL [B] W W5) : GrownL (B :: bs) w W5 := (h.mono (by simp +contextual)).trans (k.mono (by simp))
theorem AmI.apart {w W W0 : World} {v f : Value} {p : Ou → Bool} {O : List Nat} {s : List Pl} {Au : Option Addr} {n cu : Nat} (h : AmI w v f p O s (.slice Au n cu) W) (hl : ∀ q ∈ (Value.ownBlock (.slice Au n cu)).toList, w.heap.size + 6 ≤ q ∧ q < W.heap.size) (hz : W0.heap.size = w.heap.size + 4) (hO : From [] (W0.heap.size + 2) O)
  {o : Nat} (ho : o ∈ [W0.heap.size, W0.heap.size + 1] ++ O) (hm : o ∈ (w.heap.size + 2) :: (Value.ownBlock (.slice Au n cu)).toList) : False := by
 rcases List.mem_append.1 ho with h1 | h1
 ·rcases List.mem_cons.1 hm with h2 | h2
  ·simp at h1; omega
  ·have := hl o h2; simp at h1; omega
 ·have h3 : W0.heap.size + 2 ≤ o := by
   rcases hO o h1 with h' | h'
   ·cases h'
   ·exact h'
  rcases List.mem_cons.1 hm with h2 | h2
  ·omega
  ·exact h.own o (by simpa using h2) h1
theorem AmI.next {w W W4 : World} {v f v' : Value} {p : Ou → Bool} {O : List Nat} {s : List Pl} {x : Pl} {Au : Option Addr} {n cu : Nat} (h : AmI w v f p O s (.slice Au n cu) W) (g4 : GrownL (Value.ownBlock (.slice Au n cu)).toList W W4) (l4 : W4.cell? ⟨w.heap.size + 2, 0, none⟩ = some (.slice Au n cu)) (lf : W4.frozen? ⟨w.heap.size + 2, 0, none⟩ = false)
  (hl : ∀ q ∈ (Value.ownBlock (.slice Au n cu)).toList, w.heap.size + 6 ≤ q ∧ q < W.heap.size) (hr : OwnG encI 1 3 (w.heap.size + 6) v' (idsP p (s ++ [x])) W4) (hat : v'.ownBlock = (Value.slice Au n cu).ownBlock ∨ v'.ownBlock = some (W.heap.size + 1)) : AmI w v f p O (s ++ [x]) v' (W4.setCell ⟨w.heap.size + 2, 0, none⟩ v') := by
 have gs : GrownL [w.heap.size + 2] W4 (W4.setCell ⟨w.heap.size + 2, 0, none⟩ v') := GrownL.set _ _ _ (by simp)
 have G := g4.cons2 gs
 have nb : ∀ k, k ≤ w.heap.size + 3 → k ≠ w.heap.size + 2 → k ∉ (w.heap.size + 2) :: (Value.ownBlock (.slice Au n cu)).toList := fun k hk h2 hm => by
  rcases List.mem_cons.1 hm with e | hm
  ·exact h2 e
  ·have := (hl k hm).1; omega
 refine ⟨fun o ho => Nat.lt_of_lt_of_le (h.lt o ho) G.size, G.cell h.f (nb _ (by show w.heap.size + 1 ≤ _; omega) (by show w.heap.size + 1 ≠ _; omega)), ⟨h.kp.1.trans (G.below (fun b hb => ?_) h.kp.1.size), G.cell h.kp.2 (nb _ (Nat.le_refl _) (by show w.heap.size + 3 ≠ _; omega))⟩, World.cell?_setCell_same' _ _ _ (by rw [l4]; rfl), (World.frozen?_setCell _ _ _ _).trans lf, hr.grown gs (fun g e hm => ?_), fun g e hm => ?_⟩
 ·rcases List.mem_cons.1 hb with e | hb
  ·omega
  ·have := (hl b hb).1; omega
 ·have := (hr.lt g e).1; simp at hm; omega
 ·rcases hat with h' | h'
  ·exact h.own g (h' ▸ e) hm
  ·have := h.lt g hm
   rw [h'] at e
   simp at e
   omega

set_option maxHeartbeats 16000000 in
set_option maxRecDepth 1000000 in
theorem amongOutlets_any (A : Option Addr) (c : Nat) (ws : Wk) (w : World) (h : RK w.heap.size (.slice A ws.length c) ws w) (ht : total ws ≤ 100000) (hl : ws.length ≤ 100000) :
  Calls Try.prog 104 #[.agg #[.slice A ws.length c], .func (.func 105) #[] #[]] w fun e w' => ∃ v, e = .returned v ∧ OwnG encI 1 3 w.heap.size v (idsL (fun _ => true) (outs ws)) w' ∧ Below w.heap.size w w' := by
 obtain ⟨i0, hz0, hj0, hj1, hj2⟩ := info_parts infoInt
 have H := Lib.hid h
 have HN := Lib.hid (And.intro ht hl)
 clear h ht hl
 refine (callsIn_wide (n := 3)).1 ?_
 refine callsIn_of_wp_marks Try.func104 rfl trivial ?_ rfl
 simp only [Try.ntmps104, List.size_toArray, List.length_cons, List.length_nil, Nat.reduceAdd, Nat.reduceSub, Array.replicate_succ, Array.replicate_zero, List.push_toArray, List.append_toArray, List.nil_append, List.cons_append]
 gi_wp2_with fail
 refine ⟨trivial, (callsIn_wide.2 (places_any A ws.length c _)).mono ?_⟩
 rintro e w1 ⟨rfl, rfl⟩
 obtain ⟨W0, hW0⟩ : ∃ W0, ((((w.alloc (.cells #[.slice A ws.length c] 24)).alloc (.cells #[.func (.func 105) #[] #[]] 154)).alloc (.cells #[.slice none 0 0] 25)).alloc (.cells #[.slice A ws.length c] 24)) = W0 := ⟨_, rfl⟩
 have hz0' : W0.heap.size = w.heap.size + 4 := by rw [← hW0]; simp
 have hb2 : Below w.heap.size w W0 := by rw [← hW0]; exact ((((Below.refl _ _).alloc (Nat.le_refl _) _).alloc (by simp) _).alloc (by simp; omega) _).alloc (by simp; omega) _
 have I0 : Hid (AmI w (.slice A ws.length c) (.func (.func 105) #[] #[]) (fun _ => true) [] [] (.slice none 0 0) W0) := Lib.hid ⟨by simp, by rw [← hW0]; simp [go_sem], ⟨hb2, by rw [← hW0]; simp [go_sem]⟩, by rw [← hW0]; simp [go_sem], by rw [← hW0]; simp [go_sem], OwnG.nil _ _ _ _ _, fun g e => by cases e⟩
 have HZ := Lib.hid hz0'
 gi_wp2_with fail
 try rw [hW0]
 refine wpIn_rangeK (gf := 132) (lb := #[.pointer (some ⟨w.heap.size + 1 + 1 + 1, 0, none⟩)]) rfl enters_places1
  (places_seq w W0 (w.heap.size + 3) A ws.length c ws H.out (by have := HN.out; omega) (by have := HN.out; omega)) (Below.refl _ _) (fun o ho => by cases ho) (fun _ => rfl)
  (fun O s W => ∃ u, AmI w (.slice A ws.length c) (.func (.func 105) #[] #[]) (fun _ => true) O s u W) (fun _ _ _ _ => False) (fun _ _ _ h => by obtain ⟨_, h⟩ := h; exact h.kp) ?h0 ?hI (fun _ _ _ _ _ _ h _ => h) ?round ?done ?stop
 case h0 =>
  intro W' hb hsz
  exact ⟨_, I0.out.grown (bs := []) (GrownL.of_below hb) (by simp) (by simp) (fun o ho => by cases ho)⟩
 case hI =>
  rintro O O' s W1 W2 hO ⟨u, hi⟩ hg hcl
  refine ⟨u, hi.grown hg (fun b hb => ?_) (fun g e hm => ?_) hcl⟩
  ·rcases List.mem_cons.1 hb with e | hb
   ·omega
   rcases List.mem_cons.1 hb with e | hb
   ·omega
   ·rcases hO _ hb with h | h
    ·cases h
    ·omega
  ·have := (hi.row.lt g e).1
   rcases List.mem_cons.1 hm with e' | hm
   ·omega
   rcases List.mem_cons.1 hm with e' | hm
   ·omega
   ·exact hi.own g e hm
 case round =>
  rintro O pre x W hO ⟨u, hi⟩ hsz hsp
  have HSP := Lib.hid (pl_os hsp)
  clear hsp
  have HI := Lib.hid hi
  obtain ⟨Au, cu, rfl, -⟩ := hi.row.form
  have HOO := Lib.hid hO
  clear hi hO
  obtain ⟨xa, xc, xn, x⟩ := x
  dsimp only [encP]
  gi_wp2_with fail
  refine ⟨Keeps.of_below (((Below.refl _ _).alloc (Nat.le_refl _) _).alloc (by simp) _), fun W2 hg2 hl2 => ?_⟩
  have hwz : w.heap.size + 6 ≤ W.heap.size := by omega
  have hne : ∀ k, W.heap.size ≤ k → k ∉ [W0.heap.size + 1] := fun k hk hm => by rw [List.mem_singleton] at hm; omega
  have g0 : GrownL (([] : List Nat)) W _ := GrownL.of_below (((Below.refl W.heap.size W).alloc (Nat.le_refl _) (.cells #[.int .i64 xa, .int .i64 xc, .int .i64 xn] 133)).alloc (by simp) (.cells #[.int .i64 x.id, .int .i64 x.into, .slice x.pa x.ps.length x.pc, .int .i64 x.k0, .int .i64 x.k1, .int .i64 x.s0, .int .i64 x.s1] 42))
  have HI2 : Hid (AmI w (.slice A ws.length c) (.func (.func 105) #[] #[]) (fun _ => true) O pre _ W2) := Lib.hid ((HI.out.grown (O' := O) g0 (by simp) (by simp) (fun o ho => .inl ho)).grown (O' := O) hg2 (by simp <;> omega) (fun g e hm => by have := (HI.out.row.lt g e).1; have := HZ.out; simp at hm; omega) (fun o ho => .inl ho))
  have p0 : W2.cell? ⟨W.heap.size, 0, none⟩ = some (.int .i64 xa) := hg2.cell (p := ⟨W.heap.size, 0, none⟩) (by simp [go_sem]) (hne _ (Nat.le_refl _))
  have p1 : W2.cell? ⟨W.heap.size, 1, none⟩ = some (.int .i64 xc) := hg2.cell (p := ⟨W.heap.size, 1, none⟩) (by simp [go_sem]) (hne _ (Nat.le_refl _))
  have p2 : W2.cell? ⟨W.heap.size, 2, none⟩ = some (.int .i64 xn) := hg2.cell (p := ⟨W.heap.size, 2, none⟩) (by simp [go_sem]) (hne _ (Nat.le_refl _))
  have o0 : W2.cell? ⟨W.heap.size + 1, 0, none⟩ = some (.int .i64 x.id) := hg2.cell (p := ⟨W.heap.size + 1, 0, none⟩) (by simp [go_sem]) (hne _ (by simp))
  have o1 : W2.cell? ⟨W.heap.size + 1, 1, none⟩ = some (.int .i64 x.into) := hg2.cell (p := ⟨W.heap.size + 1, 1, none⟩) (by simp [go_sem]) (hne _ (by simp))
  have o2 : W2.cell? ⟨W.heap.size + 1, 2, none⟩ = some (.slice x.pa x.ps.length x.pc) := hg2.cell (p := ⟨W.heap.size + 1, 2, none⟩) (by simp [go_sem]) (hne _ (by simp))
  have o3 : W2.cell? ⟨W.heap.size + 1, 3, none⟩ = some (.int .i64 x.k0) := hg2.cell (p := ⟨W.heap.size + 1, 3, none⟩) (by simp [go_sem]) (hne _ (by simp))
  have o4 : W2.cell? ⟨W.heap.size + 1, 4, none⟩ = some (.int .i64 x.k1) := hg2.cell (p := ⟨W.heap.size + 1, 4, none⟩) (by simp [go_sem]) (hne _ (by simp))
  have o5 : W2.cell? ⟨W.heap.size + 1, 5, none⟩ = some (.int .i64 x.s0) := hg2.cell (p := ⟨W.heap.size + 1, 5, none⟩) (by simp [go_sem]) (hne _ (by simp))
  have o6 : W2.cell? ⟨W.heap.size + 1, 6, none⟩ = some (.int .i64 x.s1) := hg2.cell (p := ⟨W.heap.size + 1, 6, none⟩) (by simp [go_sem]) (hne _ (by simp))
  have f0 := HI2.out.f
  have C := outletsSays xa xc xn x W2
  have HWS : Hid (W.heap.size + 2 ≤ W2.heap.size) := Lib.hid (World.block_lt_of_cell? _ _ o0)
  have HWZ := Lib.hid hwz
  have OI := Lib.hid o0
  clear hg2 hl2 hne g0 hsz hwz
  gi_wp2_with fail
  refine ⟨trivial, (CallsIn.inRound _ (callsIn_wide.2 C)).mono ?_⟩
  rintro e W3 ⟨rfl, b3⟩
  have HI3 : Hid (AmI w (.slice A ws.length c) (.func (.func 105) #[] #[]) (fun _ => true) O pre _ W3) := Lib.hid (HI2.out.grown (O' := O) (GrownL.of_below (bs := []) b3) (by simp) (by simp) (fun o ho => .inl ho))
  have o0 := (b3.cell (p := ⟨W.heap.size + 1, 0, none⟩) (by have := HWS.out; show W.heap.size + 1 < _; omega)).trans OI.out
  have K3 : Hid (Keeps ([W0.heap.size, W0.heap.size + 1] ++ O) W2 W3) := Lib.hid (Keeps.of_below b3)
  have HWS3 := Lib.hid (Nat.le_trans HWS.out b3.size)
  obtain ⟨l, hl⟩ : ∃ l, idsP (fun _ => true) pre = l := ⟨_, rfl⟩
  have HL := Lib.hid hl
  have hlb : l.length ≤ 100000 := by
   rw [← hl]
   have := idsP_len (fun _ => true) pre
   have h2 := HSP.out
   have := HN.out.1
   simp at h2
   omega
  rw [hl] at HI3
  clear hl
  obtain ⟨n, hn⟩ : ∃ n, l.length = n := ⟨_, rfl⟩
  have HNL := Lib.hid hn
  rw [hn] at HI3 hlb
  clear o1 o2 o3 o4 o5 o6 p0 p1 p2 f0 C b3 HI2 hn
  have l0 : W3.cell? ⟨w.heap.size + 1 + 1, 0, none⟩ = some (.slice Au n cu) := HI3.out.l
  have R3 : Hid (W3.ownsRow (w.heap.size + 6) 3 1 (.slice Au n cu) n (l.flatMap encI)) := Lib.hid (by have := HI3.out.row; unfold OwnG at this; rwa [HL.out, HNL.out] at this)
  have hbs : w.heap.size + 6 ≤ W3.heap.size := by have := HWS3.out; have := HWZ.out; omega
  gi_wp2_with (gi_at_builtin; refine wpListIn_append_own_at _ rfl _ _ 25 rfl (w.heap.size + 6) 3 i0 (.int .i64 0) 1 8 Try.underlying25 hz0 hj0 hj1 hj2 rfl (by decide) _ n _ rfl (R3.out.alloc _) ⟨W3.heap.size, 0, none⟩ 1 1 [.int .i64 x.id] rfl rfl (fun i u hi => one_news W3 (.int .i64 x.id) 3 i u hi) (fun u hu => one_one x.id u hu) ?c3 ?c4 ?c5 ?_)
  case c3 => unfold maxLen; omega
  case c4 => omega
  case c5 => first | (simp <;> omega) | omega
  intro v' w4 hown' hgrow _ hat
  have HLT := Lib.hid fun q (hq : q ∈ (Value.ownBlock (.slice Au n cu)).toList) => R3.out.lt q (by simpa using hq)
  have G4 := Lib.hid ((GrownL.of_below (bs := (Value.ownBlock (.slice Au n cu)).toList) ((Below.refl W3.heap.size W3).alloc (Nat.le_refl _) (.cells #[.int .i64 x.id] 3))).trans (GrownL.of_row hgrow))
  have R4 : Hid (OwnG encI 1 3 (w.heap.size + 6) v' (idsP (fun _ => true) (pre ++ [⟨xa, xc, xn, x⟩])) w4) := Lib.hid (by
   rw [idsP_keep pre (x := ⟨xa, xc, xn, x⟩) rfl, HL.out]
   unfold OwnG
   rw [List.flatMap_append, List.length_append, HNL.out]
   exact hown')
  have l4 : w4.cell? ⟨w.heap.size + 1 + 1, 0, none⟩ = some (.slice Au n cu) := G4.out.cell l0 (fun hm => by have h9 : w.heap.size + 6 ≤ w.heap.size + 1 + 1 := (HLT.out _ hm).1; omega)
  have lf : w4.frozen? ⟨w.heap.size + 1 + 1, 0, none⟩ = false := (World.frozen?_of_block (G4.out.block _ (World.block_lt_of_cell? _ _ l0) (fun hm => by have h9 : w.heap.size + 6 ≤ w.heap.size + 1 + 1 := (HLT.out _ hm).1; omega))).trans HI3.out.lf
  have HAt := Lib.hid hat
  have L4 := Lib.hid l4
  have LF := Lib.hid lf
  clear hown' hgrow l0 hat
  obtain ⟨Av', cv', rfl, -⟩ := R4.out.form
  gi_wp2_with fail
  exact ⟨K3.out.trans (Keeps.of_grown (G4.out.cons2 (W5 := w4.setCell ⟨w.heap.size + 2, 0, none⟩ _) (GrownL.set w4 ⟨w.heap.size + 2, 0, none⟩ _ (by simp))) (fun o ho hm => AmI.apart HI3.out HLT.out (HZ.out) HOO.out ho hm)), _, HI3.out.next G4.out L4.out LF.out HLT.out R4.out HAt.out⟩
 case done =>
  rintro O xs W hO hS ⟨u, hi⟩ hD hK
  obtain rfl : xs = allP ws := hS
  obtain ⟨Au, cu, rfl, -⟩ := hi.row.form
  have HI := Lib.hid hi
  have HKK := Lib.hid hK
  have l0 := hi.l
  clear hi hD hK
  gi_wp2_with fail
  refine ⟨by simp, .inl ⟨_, _, rfl, run_takeDeferred HKK.out, ?_⟩⟩
  refine ⟨_, results_tmp rfl _ _ _, ?_⟩
  have gp : GrownL [W0.heap.size] W (W.putObj W0.heap.size (.deferred none)) := GrownL.putObj (bs := [W0.heap.size]) W W0.heap.size (.deferred none) (by simp)
  have ho : OwnG encI 1 3 (w.heap.size + 6) (.slice Au (idsP (fun _ => true) (allP ws)).length cu) (idsL (fun _ => true) (outs ws)) (W.putObj W0.heap.size (.deferred none)) := HI.out.row.grown gp (fun g hg hm => by have := (HI.out.row.lt g hg).1; have := HZ.out; simp at hm; omega)
  exact ⟨_, rfl, ho.low (by omega), HI.out.kp.1.trans (gp.below (by have := HZ.out; simp; omega) HI.out.kp.1.size)⟩
 case stop =>
  rintro c O pre W hO _ h _
  exact h.elim

set_option maxHeartbeats 16000000 in
set_option maxRecDepth 1000000 in
theorem amongBeds_any (A : Option Addr) (c : Nat) (ws : Wk) (w : World) (h : RK w.heap.size (.slice A ws.length c) ws w) (ht : total ws ≤ 100000) (hl : ws.length ≤ 100000) :
  Calls Try.prog 104 #[.agg #[.slice A ws.length c], .func (.func 107) #[] #[]] w fun e w' => ∃ v, e = .returned v ∧ OwnG encI 1 3 w.heap.size v (idsL (fun o => decide (o.into < 0)) (outs ws)) w' ∧ Below w.heap.size w w' := by
 obtain ⟨i0, hz0, hj0, hj1, hj2⟩ := info_parts infoInt
 have H := Lib.hid h
 have HN := Lib.hid (And.intro ht hl)
 clear h ht hl
 refine (callsIn_wide (n := 3)).1 ?_
 refine callsIn_of_wp_marks Try.func104 rfl trivial ?_ rfl
 simp only [Try.ntmps104, List.size_toArray, List.length_cons, List.length_nil, Nat.reduceAdd, Nat.reduceSub, Array.replicate_succ, Array.replicate_zero, List.push_toArray, List.append_toArray, List.nil_append, List.cons_append]
 gi_wp2_with fail
 refine ⟨trivial, (callsIn_wide.2 (places_any A ws.length c _)).mono ?_⟩
 rintro e w1 ⟨rfl, rfl⟩
 obtain ⟨W0, hW0⟩ : ∃ W0, ((((w.alloc (.cells #[.slice A ws.length c] 24)).alloc (.cells #[.func (.func 107) #[] #[]] 154)).alloc (.cells #[.slice none 0 0] 25)).alloc (.cells #[.slice A ws.length c] 24)) = W0 := ⟨_, rfl⟩
 have hz0' : W0.heap.size = w.heap.size + 4 := by rw [← hW0]; simp
 have hb2 : Below w.heap.size w W0 := by rw [← hW0]; exact ((((Below.refl _ _).alloc (Nat.le_refl _) _).alloc (by simp) _).alloc (by simp; omega) _).alloc (by simp; omega) _
 have I0 : Hid (AmI w (.slice A ws.length c) (.func (.func 107) #[] #[]) (fun o => decide (o.into < 0)) [] [] (.slice none 0 0) W0) := Lib.hid ⟨by simp, by rw [← hW0]; simp [go_sem], ⟨hb2, by rw [← hW0]; simp [go_sem]⟩, by rw [← hW0]; simp [go_sem], by rw [← hW0]; simp [go_sem], OwnG.nil _ _ _ _ _, fun g e => by cases e⟩
 have HZ := Lib.hid hz0'
 gi_wp2_with fail
 try rw [hW0]
 refine wpIn_rangeK (gf := 132) (lb := #[.pointer (some ⟨w.heap.size + 1 + 1 + 1, 0, none⟩)]) rfl enters_places1
  (places_seq w W0 (w.heap.size + 3) A ws.length c ws H.out (by have := HN.out; omega) (by have := HN.out; omega)) (Below.refl _ _) (fun o ho => by cases ho) (fun _ => rfl)
  (fun O s W => ∃ u, AmI w (.slice A ws.length c) (.func (.func 107) #[] #[]) (fun o => decide (o.into < 0)) O s u W) (fun _ _ _ _ => False) (fun _ _ _ h => by obtain ⟨_, h⟩ := h; exact h.kp) ?h0 ?hI (fun _ _ _ _ _ _ h _ => h) ?round ?done ?stop
 case h0 =>
  intro W' hb hsz
  exact ⟨_, I0.out.grown (bs := []) (GrownL.of_below hb) (by simp) (by simp) (fun o ho => by cases ho)⟩
 case hI =>
  rintro O O' s W1 W2 hO ⟨u, hi⟩ hg hcl
  refine ⟨u, hi.grown hg (fun b hb => ?_) (fun g e hm => ?_) hcl⟩
  ·rcases List.mem_cons.1 hb with e | hb
   ·omega
   rcases List.mem_cons.1 hb with e | hb
   ·omega
   ·rcases hO _ hb with h | h
    ·cases h
    ·omega
  ·have := (hi.row.lt g e).1
   rcases List.mem_cons.1 hm with e' | hm
   ·omega
   rcases List.mem_cons.1 hm with e' | hm
   ·omega
   ·exact hi.own g e hm
 case round =>
  rintro O pre x W hO ⟨u, hi⟩ hsz hsp
  have HSP := Lib.hid (pl_os hsp)
  clear hsp
  have HI := Lib.hid hi
  obtain ⟨Au, cu, rfl, -⟩ := hi.row.form
  have HOO := Lib.hid hO
  clear hi hO
  obtain ⟨xa, xc, xn, x⟩ := x
  dsimp only [encP]
  gi_wp2_with fail
  refine ⟨Keeps.of_below (((Below.refl _ _).alloc (Nat.le_refl _) _).alloc (by simp) _), fun W2 hg2 hl2 => ?_⟩
  have hwz : w.heap.size + 6 ≤ W.heap.size := by omega
  have hne : ∀ k, W.heap.size ≤ k → k ∉ [W0.heap.size + 1] := fun k hk hm => by rw [List.mem_singleton] at hm; omega
  have g0 : GrownL (([] : List Nat)) W _ := GrownL.of_below (((Below.refl W.heap.size W).alloc (Nat.le_refl _) (.cells #[.int .i64 xa, .int .i64 xc, .int .i64 xn] 133)).alloc (by simp) (.cells #[.int .i64 x.id, .int .i64 x.into, .slice x.pa x.ps.length x.pc, .int .i64 x.k0, .int .i64 x.k1, .int .i64 x.s0, .int .i64 x.s1] 42))
  have HI2 : Hid (AmI w (.slice A ws.length c) (.func (.func 107) #[] #[]) (fun o => decide (o.into < 0)) O pre _ W2) := Lib.hid ((HI.out.grown (O' := O) g0 (by simp) (by simp) (fun o ho => .inl ho)).grown (O' := O) hg2 (by simp <;> omega) (fun g e hm => by have := (HI.out.row.lt g e).1; have := HZ.out; simp at hm; omega) (fun o ho => .inl ho))
  have p0 : W2.cell? ⟨W.heap.size, 0, none⟩ = some (.int .i64 xa) := hg2.cell (p := ⟨W.heap.size, 0, none⟩) (by simp [go_sem]) (hne _ (Nat.le_refl _))
  have p1 : W2.cell? ⟨W.heap.size, 1, none⟩ = some (.int .i64 xc) := hg2.cell (p := ⟨W.heap.size, 1, none⟩) (by simp [go_sem]) (hne _ (Nat.le_refl _))
  have p2 : W2.cell? ⟨W.heap.size, 2, none⟩ = some (.int .i64 xn) := hg2.cell (p := ⟨W.heap.size, 2, none⟩) (by simp [go_sem]) (hne _ (Nat.le_refl _))
  have o0 : W2.cell? ⟨W.heap.size + 1, 0, none⟩ = some (.int .i64 x.id) := hg2.cell (p := ⟨W.heap.size + 1, 0, none⟩) (by simp [go_sem]) (hne _ (by simp))
  have o1 : W2.cell? ⟨W.heap.size + 1, 1, none⟩ = some (.int .i64 x.into) := hg2.cell (p := ⟨W.heap.size + 1, 1, none⟩) (by simp [go_sem]) (hne _ (by simp))
  have o2 : W2.cell? ⟨W.heap.size + 1, 2, none⟩ = some (.slice x.pa x.ps.length x.pc) := hg2.cell (p := ⟨W.heap.size + 1, 2, none⟩) (by simp [go_sem]) (hne _ (by simp))
  have o3 : W2.cell? ⟨W.heap.size + 1, 3, none⟩ = some (.int .i64 x.k0) := hg2.cell (p := ⟨W.heap.size + 1, 3, none⟩) (by simp [go_sem]) (hne _ (by simp))
  have o4 : W2.cell? ⟨W.heap.size + 1, 4, none⟩ = some (.int .i64 x.k1) := hg2.cell (p := ⟨W.heap.size + 1, 4, none⟩) (by simp [go_sem]) (hne _ (by simp))
  have o5 : W2.cell? ⟨W.heap.size + 1, 5, none⟩ = some (.int .i64 x.s0) := hg2.cell (p := ⟨W.heap.size + 1, 5, none⟩) (by simp [go_sem]) (hne _ (by simp))
  have o6 : W2.cell? ⟨W.heap.size + 1, 6, none⟩ = some (.int .i64 x.s1) := hg2.cell (p := ⟨W.heap.size + 1, 6, none⟩) (by simp [go_sem]) (hne _ (by simp))
  have f0 := HI2.out.f
  have C := bedsSays xa xc xn x W2
  have HWS : Hid (W.heap.size + 2 ≤ W2.heap.size) := Lib.hid (World.block_lt_of_cell? _ _ o0)
  have HWZ := Lib.hid hwz
  have OI := Lib.hid o0
  clear hg2 hl2 hne g0 hsz hwz
  gi_wp2_with fail
  refine ⟨trivial, (CallsIn.inRound _ (callsIn_wide.2 C)).mono ?_⟩
  rintro e W3 ⟨rfl, b3⟩
  have HI3 : Hid (AmI w (.slice A ws.length c) (.func (.func 107) #[] #[]) (fun o => decide (o.into < 0)) O pre _ W3) := Lib.hid (HI2.out.grown (O' := O) (GrownL.of_below (bs := []) b3) (by simp) (by simp) (fun o ho => .inl ho))
  have o0 := (b3.cell (p := ⟨W.heap.size + 1, 0, none⟩) (by have := HWS.out; show W.heap.size + 1 < _; omega)).trans OI.out
  have K3 : Hid (Keeps ([W0.heap.size, W0.heap.size + 1] ++ O) W2 W3) := Lib.hid (Keeps.of_below b3)
  have HWS3 := Lib.hid (Nat.le_trans HWS.out b3.size)
  obtain ⟨l, hl⟩ : ∃ l, idsP (fun o => decide (o.into < 0)) pre = l := ⟨_, rfl⟩
  have HL := Lib.hid hl
  have hlb : l.length ≤ 100000 := by
   rw [← hl]
   have := idsP_len (fun o => decide (o.into < 0)) pre
   have h2 := HSP.out
   have := HN.out.1
   simp at h2
   omega
  rw [hl] at HI3
  clear hl
  obtain ⟨n, hn⟩ : ∃ n, l.length = n := ⟨_, rfl⟩
  have HNL := Lib.hid hn
  rw [hn] at HI3 hlb
  clear o1 o2 o3 o4 o5 o6 p0 p1 p2 f0 C b3 HI2 hn
  by_cases hneg : x.into < 0
  ·have l0 : W3.cell? ⟨w.heap.size + 1 + 1, 0, none⟩ = some (.slice Au n cu) := HI3.out.l
   have R3 : Hid (W3.ownsRow (w.heap.size + 6) 3 1 (.slice Au n cu) n (l.flatMap encI)) := Lib.hid (by have := HI3.out.row; unfold OwnG at this; rwa [HL.out, HNL.out] at this)
   have hbs : w.heap.size + 6 ≤ W3.heap.size := by have := HWS3.out; have := HWZ.out; omega
   gi_wp2_with (gi_at_builtin; refine wpListIn_append_own_at _ rfl _ _ 25 rfl (w.heap.size + 6) 3 i0 (.int .i64 0) 1 8 Try.underlying25 hz0 hj0 hj1 hj2 rfl (by decide) _ n _ rfl (R3.out.alloc _) ⟨W3.heap.size, 0, none⟩ 1 1 [.int .i64 x.id] rfl rfl (fun i u hi => one_news W3 (.int .i64 x.id) 3 i u hi) (fun u hu => one_one x.id u hu) ?c3 ?c4 ?c5 ?_)
   case c3 => unfold maxLen; omega
   case c4 => omega
   case c5 => first | (simp <;> omega) | omega
   intro v' w4 hown' hgrow _ hat
   have HLT := Lib.hid fun q (hq : q ∈ (Value.ownBlock (.slice Au n cu)).toList) => R3.out.lt q (by simpa using hq)
   have G4 := Lib.hid ((GrownL.of_below (bs := (Value.ownBlock (.slice Au n cu)).toList) ((Below.refl W3.heap.size W3).alloc (Nat.le_refl _) (.cells #[.int .i64 x.id] 3))).trans (GrownL.of_row hgrow))
   have R4 : Hid (OwnG encI 1 3 (w.heap.size + 6) v' (idsP (fun o => decide (o.into < 0)) (pre ++ [⟨xa, xc, xn, x⟩])) w4) := Lib.hid (by
    rw [idsP_keep pre (x := ⟨xa, xc, xn, x⟩) (by simpa using hneg), HL.out]
    unfold OwnG
    rw [List.flatMap_append, List.length_append, HNL.out]
    exact hown')
   have l4 : w4.cell? ⟨w.heap.size + 1 + 1, 0, none⟩ = some (.slice Au n cu) := G4.out.cell l0 (fun hm => by have h9 : w.heap.size + 6 ≤ w.heap.size + 1 + 1 := (HLT.out _ hm).1; omega)
   have lf : w4.frozen? ⟨w.heap.size + 1 + 1, 0, none⟩ = false := (World.frozen?_of_block (G4.out.block _ (World.block_lt_of_cell? _ _ l0) (fun hm => by have h9 : w.heap.size + 6 ≤ w.heap.size + 1 + 1 := (HLT.out _ hm).1; omega))).trans HI3.out.lf
   have HAt := Lib.hid hat
   have L4 := Lib.hid l4
   have LF := Lib.hid lf
   clear hown' hgrow l0 hat
   obtain ⟨Av', cv', rfl, -⟩ := R4.out.form
   gi_wp2_with fail
   exact ⟨K3.out.trans (Keeps.of_grown (G4.out.cons2 (W5 := w4.setCell ⟨w.heap.size + 2, 0, none⟩ _) (GrownL.set w4 ⟨w.heap.size + 2, 0, none⟩ _ (by simp))) (fun o ho hm => AmI.apart HI3.out HLT.out (HZ.out) HOO.out ho hm)), _, HI3.out.next G4.out L4.out LF.out HLT.out R4.out HAt.out⟩

  ·gi_wp2_with fail
   exact ⟨K3.out, _, HI3.out.drop (idsP_drop pre (x := ⟨xa, xc, xn, x⟩) (by simpa using hneg))⟩
 case done =>
  rintro O xs W hO hS ⟨u, hi⟩ hD hK
  obtain rfl : xs = allP ws := hS
  obtain ⟨Au, cu, rfl, -⟩ := hi.row.form
  have HI := Lib.hid hi
  have HKK := Lib.hid hK
  have l0 := hi.l
  clear hi hD hK
  gi_wp2_with fail
  refine ⟨by simp, .inl ⟨_, _, rfl, run_takeDeferred HKK.out, ?_⟩⟩
  refine ⟨_, results_tmp rfl _ _ _, ?_⟩
  have gp : GrownL [W0.heap.size] W (W.putObj W0.heap.size (.deferred none)) := GrownL.putObj (bs := [W0.heap.size]) W W0.heap.size (.deferred none) (by simp)
  have ho : OwnG encI 1 3 (w.heap.size + 6) (.slice Au (idsP (fun o => decide (o.into < 0)) (allP ws)).length cu) (idsL (fun o => decide (o.into < 0)) (outs ws)) (W.putObj W0.heap.size (.deferred none)) := HI.out.row.grown gp (fun g hg hm => by have := (HI.out.row.lt g hg).1; have := HZ.out; simp at hm; omega)
  exact ⟨_, rfl, ho.low (by omega), HI.out.kp.1.trans (gp.below (by have := HZ.out; simp; omega) HI.out.kp.1.size)⟩
 case stop =>
  rintro c O pre W hO _ h _
  exact h.elim
end Go.Proofs.Ytkoacclbempmdaa

/- Contracts of Outlets and Beds. -/
namespace Go.Proofs.Ytkoacclbempmdaa
open Go.RowKit

set_option maxHeartbeats 8000000 in
set_option maxRecDepth 1000000 in
theorem Outlets_any (v : Value) (ws : Wk) (d : Int) (w : World) (h : RK w.heap.size v ws w) (ht : total ws ≤ 100000) (hc : CheckIs ws d) :
  Calls Try.prog 46 #[.agg #[v]] w fun e w' => ∃ u, e = .returned (.tuple #[u, .int .i64 d]) ∧ OwnG encI 1 3 w.heap.size u (okL d (idsL (fun _ => true) (outs ws))) w' ∧ Below w.heap.size w w' := by
 obtain ⟨A, c, rfl, -⟩ := id h
 have C1 := Lib.hid fun W (S : Wd w (.slice A ws.length c) W) => check_any (.slice A ws.length c) ws d W (h.up S.siz S.bel) (by omega) hc
 have C2 := Lib.hid fun W (S : Wd w (.slice A ws.length c) W) => amongOutlets_any A c ws W (h.up S.siz S.bel) ht
 have HC := Lib.hid hc
 have S0 := Lib.hid (Wd.new (w := w) (v := .slice A ws.length c) 24)
 clear h hc
 go_enter Try.func46, Try.ntmps46
 go_wp2_with fail
 refine (C1.out _ S0.out).mono ?_
 rintro e w1 ⟨rfl, b1⟩
 have S := Lib.hid ((S0.out).below b1)
 have t0 := S.out.c
 clear b1 S0 C1
 by_cases hd : d = 0
 ·subst hd
  have HW := Lib.hid HC.out.ok
  go_wp2_with fail
  refine (C2.out _ S.out (by have := HW.out.len; omega)).mono ?_
  rintro e w2 ⟨u, rfl, ho, b2⟩
  have HO := Lib.hid ho
  have S2 := Lib.hid (S.out.below b2)
  obtain ⟨Au, cu, rfl, -⟩ := ho.form
  clear ho b2
  go_wp2_with fail
  refine bodyPost_ret (results_tmp2 rfl _ _ _) rfl ?_
  exact ⟨_, rfl, by rw [okL_zero]; exact HO.out.low (by have := S.out.siz; omega), S2.out.bel⟩
 ·have HD := Lib.hid hd
  go_wp2_with fail
  refine bodyPost_ret (results_tmp2 rfl _ _ _) rfl ?_
  exact ⟨_, rfl, by rw [okL_ne HD.out]; exact OwnG.nil _ _ _ _ _, S.out.bel⟩

set_option maxHeartbeats 8000000 in
set_option maxRecDepth 1000000 in
theorem Beds_any (v : Value) (ws : Wk) (d : Int) (w : World) (h : RK w.heap.size v ws w) (ht : total ws ≤ 100000) (hc : CheckIs ws d) :
  Calls Try.prog 48 #[.agg #[v]] w fun e w' => ∃ u, e = .returned (.tuple #[u, .int .i64 d]) ∧ OwnG encI 1 3 w.heap.size u (okL d (idsL (fun o => decide (o.into < 0)) (outs ws))) w' ∧ Below w.heap.size w w' := by
 obtain ⟨A, c, rfl, -⟩ := id h
 have C1 := Lib.hid fun W (S : Wd w (.slice A ws.length c) W) => check_any (.slice A ws.length c) ws d W (h.up S.siz S.bel) (by omega) hc
 have C2 := Lib.hid fun W (S : Wd w (.slice A ws.length c) W) => amongBeds_any A c ws W (h.up S.siz S.bel) ht
 have HC := Lib.hid hc
 have S0 := Lib.hid (Wd.new (w := w) (v := .slice A ws.length c) 24)
 clear h hc
 go_enter Try.func48, Try.ntmps48
 go_wp2_with fail
 refine (C1.out _ S0.out).mono ?_
 rintro e w1 ⟨rfl, b1⟩
 have S := Lib.hid ((S0.out).below b1)
 have t0 := S.out.c
 clear b1 S0 C1
 by_cases hd : d = 0
 ·subst hd
  have HW := Lib.hid HC.out.ok
  go_wp2_with fail
  refine (C2.out _ S.out (by have := HW.out.len; omega)).mono ?_
  rintro e w2 ⟨u, rfl, ho, b2⟩
  have HO := Lib.hid ho
  have S2 := Lib.hid (S.out.below b2)
  obtain ⟨Au, cu, rfl, -⟩ := ho.form
  clear ho b2
  go_wp2_with fail
  refine bodyPost_ret (results_tmp2 rfl _ _ _) rfl ?_
  exact ⟨_, rfl, by rw [okL_zero]; exact HO.out.low (by have := S.out.siz; omega), S2.out.bel⟩
 ·have HD := Lib.hid hd
  go_wp2_with fail
  refine bodyPost_ret (results_tmp2 rfl _ _ _) rfl ?_
  exact ⟨_, rfl, by rw [okL_ne HD.out]; exact OwnG.nil _ _ _ _ _, S.out.bel⟩
end Go.Proofs.Ytkoacclbempmdaa

/- Contracts of the specification's in and known. -/
namespace Go.Proofs.Ytkoacclbempmdaa
open Go.RowKit

set_option maxHeartbeats 8000000 in
set_option maxRecDepth 1000000 in
theorem rin_any (v : Value) (l : List Int) (x : Int) (w : World) (h : RR encI w.heap.size v l w) (hl : l.length ≤ 1000000) :
  Calls Try.prog 113 #[v, .int .i64 x] w fun e w' => e = .returned (.bool (decide (x ∈ l))) ∧ Below w.heap.size w w' := by
 obtain ⟨A, c, rfl⟩ := h.slice
 have H := Lib.hid h
 obtain ⟨r, hr⟩ : ∃ r, decide (x ∈ l) = r := ⟨_, rfl⟩
 have HR := Lib.hid hr
 have hll : (l.length : Int) ≤ 1000000 := by omega
 rw [hr]
 clear h hr
 go_enter Try.func113, Try.ntmps113
 go_wp2_with fail
 go_loopw [5] (fun u wr => ∃ i : Nat, u = .int .i64 i ∧ i ≤ l.length ∧ (∀ j y, j < i → l[j]? = some y → y ≠ x) ∧ wr = w) (fun u _ => l.length - (intOf u).toNat)
 case atStart => exact ⟨0, rfl, by omega, fun j o hj => by omega, rfl⟩
 case round =>
  obtain ⟨i, rfl, hi, hno, rfl⟩ := hrel
  have HNO := Lib.hid hno
  clear hno
  by_cases hil : i < l.length
  ·have hi0 : (i : Int) < (l.length : Int) := by omega
   obtain ⟨p, hp⟩ : ∃ p, l[i]? = some p := ⟨_, List.getElem?_eq_getElem hil⟩
   have HP := Lib.hid hp
   obtain ⟨bo, oo, c1, e1, -, -⟩ := H.out.at_ EI hp
   simp only [Value.slice.injEq] at e1
   obtain ⟨rfl, -, -⟩ := e1
   have q0 : wr.cell? ⟨bo, oo + i, none⟩ = some (.int .i64 p) := by have := H.out.cellsAt EI hp (i := 0) rfl; rwa [Nat.mul_one] at this
   clear hp
   by_cases he : p = x
   ·have hpb : (p == x) = true := by simp [he]
    have HE := Lib.hid he
    clear he
    go_wp2_with fail
    go_ret
    exact ⟨by rw [← HR.out, decide_eq_true (HE.out ▸ List.mem_of_getElem? HP.out)]; rfl, Below.refl _ _⟩
   ·have hpb : (p == x) = false := by simp [he]
    have HE := Lib.hid he
    clear he
    go_wp2_with fail
    go_roundw
    case rel => exact ⟨i + 1, by go_num, by omega, fun j o hj ho => by
     rcases Nat.lt_or_ge j i with h | h
     ·exact HNO.out j o h ho
     ·obtain rfl : j = i := by omega
      rw [HP.out] at ho
      cases ho
      exact HE.out, trivial⟩
    case measure => show l.length - ((i : Int) + 1).toNat < l.length - (i : Int).toNat; omega
  ·have hi0 : (l.length : Int) ≤ (i : Int) := by omega
   obtain rfl : i = l.length := by omega
   go_wp2_with fail
   go_ret
   exact ⟨by rw [← HR.out, decide_eq_false (fun hm => by
    obtain ⟨j, hj⟩ := List.mem_iff_getElem?.1 hm
    exact HNO.out j x (List.getElem?_eq_some_iff.1 hj).1 hj rfl)]; rfl, Below.refl _ _⟩

/-- What known says. -/
def KnownIs (ws : Wk) (id i d : Int) : Prop := (CheckIs ws d ∧ d ≠ 0 ∧ i = 0) ∨ (CheckIs ws 0 ∧ FstIs (fun o : Ou => o.id) (outs ws) id (-1) ∧ i = 0 ∧ d = 5) ∨ (CheckIs ws 0 ∧ FstIs (fun o : Ou => o.id) (outs ws) id i ∧ 0 ≤ i ∧ d = 0)
theorem KnownIs.exists_ (ws : Wk) (id : Int) : ∃ i d, KnownIs ws id i d := by
 obtain ⟨d, hd⟩ := CheckIs.exists_ ws
 by_cases h : d = 0
 ·subst h
  obtain ⟨r, hr⟩ := FstIs.exists_ (fun o : Ou => o.id) (outs ws) id
  by_cases h2 : 0 ≤ r
  ·exact ⟨r, 0, .inr (.inr ⟨hd, hr, h2, rfl⟩)⟩
  ·have : r = -1 := by
    rcases hr with ⟨i, _, _, _, _, e⟩ | ⟨_, e⟩
    ·omega
    ·exact e
   subst this
   exact ⟨0, 5, .inr (.inl ⟨hd, hr, rfl, rfl⟩)⟩
 ·exact ⟨0, d, .inl ⟨hd, h, rfl⟩⟩

set_option maxHeartbeats 8000000 in
set_option maxRecDepth 1000000 in
theorem rknown_any (v : Value) (ws : Wk) (id i d : Int) (w : World) (h : RK w.heap.size v ws w) (ht : total ws ≤ 100000) (hk : KnownIs ws id i d) :
  Calls Try.prog 109 #[.agg #[v], .int .i64 id] w fun e w' => e = .returned (.tuple #[.int .i64 i, .int .i64 d]) ∧ Below w.heap.size w w' := by
 obtain ⟨A, c, rfl, -⟩ := (show ∃ A c, v = .slice A ws.length c ∧ True by obtain ⟨A, c, e, _⟩ := h; exact ⟨A, c, e, trivial⟩)
 have C1 := Lib.hid fun (d : Int) (hc : CheckIs ws d) W (S : Wd w (.slice A ws.length c) W) => rcheck_any A ws.length c ws d W (h.up S.siz S.bel) ht hc
 have C2 := Lib.hid fun (r : Int) (hr : FstIs (fun o : Ou => o.id) (outs ws) id r) W (S : Wd w (.slice A ws.length c) W) => rindex_any A ws.length c ws id r W (h.up S.siz S.bel) ht hr
 have S0 := Lib.hid (Wd.new (w := w) (v := .slice A ws.length c) 24)
 clear h
 rcases hk with ⟨hc, hd, rfl⟩ | ⟨hc, hf, rfl, rfl⟩ | ⟨hc, hf, hi, rfl⟩
 ·have HC := Lib.hid hc
  have HD := Lib.hid hd
  clear hc hd
  go_enter Try.func109, Try.ntmps109
  go_wp2_with fail
  refine (C1.out d HC.out _ S0.out).mono ?_
  rintro e w1 ⟨rfl, b1⟩
  have S := Lib.hid (S0.out.below b1)
  have hd := HD.out
  clear b1
  go_wp2_with fail
  refine bodyPost_ret (results_tmp2 rfl _ _ _) rfl ?_
  exact ⟨rfl, S.out.bel⟩
 ·have HC := Lib.hid hc
  have HF := Lib.hid hf
  clear hc hf
  go_enter Try.func109, Try.ntmps109
  go_wp2_with fail
  refine (C1.out 0 HC.out _ S0.out).mono ?_
  rintro e w1 ⟨rfl, b1⟩
  have S := Lib.hid (S0.out.below b1)
  have t0 := S.out.c
  clear b1
  go_wp2_with fail
  refine (C2.out (-1) HF.out _ S.out).mono ?_
  rintro e w2 ⟨rfl, b2⟩
  have S2 := Lib.hid (S.out.below b2)
  clear b2 t0
  go_wp2_with fail
  refine bodyPost_ret (results_tmp2 rfl _ _ _) rfl ?_
  exact ⟨rfl, S2.out.bel⟩
 ·have HC := Lib.hid hc
  have HF := Lib.hid hf
  clear hc hf
  go_enter Try.func109, Try.ntmps109
  go_wp2_with fail
  refine (C1.out 0 HC.out _ S0.out).mono ?_
  rintro e w1 ⟨rfl, b1⟩
  have S := Lib.hid (S0.out.below b1)
  have t0 := S.out.c
  clear b1
  go_wp2_with fail
  refine (C2.out i HF.out _ S.out).mono ?_
  rintro e w2 ⟨rfl, b2⟩
  have S2 := Lib.hid (S.out.below b2)
  clear b2 t0
  go_wp2_with fail
  refine bodyPost_ret (results_tmp2 rfl _ _ _) rfl ?_
  exact ⟨rfl, S2.out.bel⟩
end Go.Proofs.Ytkoacclbempmdaa
