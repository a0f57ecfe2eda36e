/- The path of an outlet; contract of the specification's path. -/
import Derived.Test.YtkoacclbempmdaaGI
namespace Go.Proofs.Ytkoacclbempmdaa
open Go.RowKit

/-- The path of an outlet, by the numbers of the outlets in order. -/
inductive PathIs (ws : Wk) : Nat → List Nat → Prop
 | head {i : Nat} {p : Pl} (hp : (allP ws)[i]? = some p) (hf : FstIs (fun o : Ou => o.into) (outs ws) p.c (-1)) : PathIs ws i [i]
 | step {i j : Nat} {p : Pl} {l : List Nat} (hp : (allP ws)[i]? = some p) (hf : FstIs (fun o : Ou => o.into) (outs ws) p.c j) (h : PathIs ws j l) : PathIs ws i (l ++ [i])
theorem FstIs.unique {α : Type} {f : α → Int} {l : List α} {x r r' : Int} (h : FstIs f l x r) (h' : FstIs f l x r') : r = r' := by
 rcases h' with ⟨i, p, hp, he, hn, rfl⟩ | ⟨hn, rfl⟩
 ·exact h.at_ hn hp he
 ·exact h.none_ hn
/-- The outlet that feeds a carrier stands before its outlets. -/
theorem up_lt {ws : Wk} (hw : WOk ws) {i j : Nat} {p : Pl} (hp : (allP ws)[i]? = some p) (hf : FstIs (fun o : Ou => o.into) (outs ws) p.c j) : j < i := by
 rcases hf with ⟨k, o, ho, he, -, hk⟩ | ⟨-, h⟩
 ·obtain rfl : j = k := by omega
  have hjl := (List.getElem?_eq_some_iff.1 ho).1
  rw [outs_len, ← allP_len] at hjl
  obtain ⟨q, hq⟩ : ∃ q, (allP ws)[j]? = some q := ⟨_, List.getElem?_eq_getElem hjl⟩
  obtain rfl : q.o = o := by
   have := (outs_get hq).1
   rw [ho] at this
   simpa using this.symm
  have hlt : q.c < p.c := by
   rcases hw.into (List.mem_of_getElem? hq) with h | ⟨k, h1, h2, -, -⟩
   ·have : q.o.into = p.c := he
    omega
   ·have : q.o.into = p.c := he
    omega
  obtain ⟨-, os, h1, h2, h3⟩ := allP_inv hq
  obtain ⟨-, os', h1', h2', h3'⟩ := allP_inv hp
  have := pre_succ h1
  have hm : pre ws (q.c + 1) ≤ pre ws p.c := pre_mono hlt
  have := (List.getElem?_eq_some_iff.1 h2).1
  omega
 ·omega
theorem PathIs.len {ws : Wk} (hw : WOk ws) {i : Nat} {l : List Nat} (h : PathIs ws i l) : l.length ≤ i + 1 := by
 induction h with
 | head => simp
 | step hp hf _ ih =>
  have := up_lt hw hp hf
  simp
  omega
theorem PathIs.lt {ws : Wk} {i : Nat} {l : List Nat} (h : PathIs ws i l) : i < total ws := by
 rw [← allP_len]
 cases h with
 | head hp => exact (List.getElem?_eq_some_iff.1 hp).1
 | step hp => exact (List.getElem?_eq_some_iff.1 hp).1
theorem PathIs.exists_ {ws : Wk} (hw : WOk ws) : ∀ n i, i < n → i < total ws → ∃ l, PathIs ws i l
 | n + 1, i, h, hi => by
  obtain ⟨p, hp⟩ : ∃ p, (allP ws)[i]? = some p := ⟨_, List.getElem?_eq_getElem (by rw [allP_len]; exact hi)⟩
  obtain ⟨r, hr⟩ := FstIs.exists_ (fun o : Ou => o.into) (outs ws) p.c
  by_cases h0 : 0 ≤ r
  ·obtain ⟨j, rfl⟩ : ∃ j : Nat, r = j := ⟨r.toNat, by omega⟩
   have hlt := up_lt hw hp hr
   obtain ⟨l, hl⟩ := PathIs.exists_ hw n j (by omega) (by omega)
   exact ⟨_, .step hp hr hl⟩
  ·have : r = -1 := by
    rcases hr with ⟨k, _, _, _, _, e⟩ | ⟨_, e⟩
    ·omega
    ·exact e
   subst this
   exact ⟨_, .head hp hr⟩
theorem PathIs.unique {ws : Wk} {i : Nat} {l l' : List Nat} (h : PathIs ws i l) (h' : PathIs ws i l') : l = l' := by
 induction h generalizing l' with
 | head hp hf =>
  cases h' with
  | head => rfl
  | step hp' hf' =>
   rw [hp] at hp'
   cases hp'
   have := hf.unique hf'
   omega
 | step hp hf h ih =>
  cases h' with
  | head hp' hf' =>
   rw [hp] at hp'
   cases hp'
   have := hf.unique hf'
   omega
  | step hp' hf' h' =>
   rw [hp] at hp'
   cases hp'
   have := hf.unique hf'
   obtain rfl := Int.ofNat_inj.1 this
   rw [ih h']
def lenV : Value → Nat
 | .slice _ n _ => n
 | _ => 0
/-- What the specification's path holds while it asks for the next one up. -/
structure PtH (w w2 : World) (v : Value) (g bp op j c : Nat) (u : Value) (l : List Int) (W : World) : Prop where
 s : Wd w v W
 out : W.cell? ⟨g, 0, none⟩ = some (.int .i64 j)
 pl : W.cell? ⟨bp, op + j * 2, none⟩ = some (.int .i64 c)
 row : OwnG encI 1 3 w2.heap.size u l W
 b : Below w2.heap.size w2 W
theorem PtH.below {w w2 W W' : World} {v : Value} {g bp op j c : Nat} {u : Value} {l : List Int} (h : PtH w w2 v g bp op j c u l W) (hb : Below W.heap.size W W') : PtH w w2 v g bp op j c u l W' :=
 ⟨h.s.below hb, (hb.cell (p := ⟨g, 0, none⟩) (World.block_lt_of_cell? _ _ h.out)).trans h.out, (hb.cell (p := ⟨bp, op + j * 2, none⟩) (World.block_lt_of_cell? _ _ h.pl)).trans h.pl, h.row.below hb, h.b.trans (hb.mono h.b.size)⟩
theorem PathIs.cases {ws : Wk} {j : Nat} {l : List Nat} (h : PathIs ws j l) : (l = [j] ∧ ∃ p, (allP ws)[j]? = some p ∧ FstIs (fun o : Ou => o.into) (outs ws) p.c (-1)) ∨ ∃ (j' : Nat) (l' : List Nat), l = l' ++ [j] ∧ ∃ p, (allP ws)[j]? = some p ∧ FstIs (fun o : Ou => o.into) (outs ws) p.c j' ∧ PathIs ws j' l' := by
 cases h with
 | head hp hf => exact .inl ⟨rfl, _, hp, hf⟩
 | step hp hf h => exact .inr ⟨_, _, rfl, _, hp, hf, h⟩
theorem PathIs.pos {ws : Wk} {j : Nat} {l : List Nat} (h : PathIs ws j l) : 0 < l.length := by
 cases h <;> simp
theorem row_head {base : Nat} {v : Value} {j : Nat} {rest : List Nat} {W : World} (h : OwnG encI 1 3 base v ((j :: rest).map Int.ofNat) W) : ∃ g c, v = .slice (some ⟨g, 0, none⟩) (rest.length + 1) c ∧ W.cell? ⟨g, 0, none⟩ = some (.int .i64 j) := by
 obtain ⟨A, c, rfl, hA⟩ := h.form
 obtain ⟨g, rfl⟩ := hA (by simp)
 refine ⟨g, c, by simp, ?_⟩
 have := (World.ownsRow.cells h (g := g) rfl) 0 (.int .i64 j) rfl
 rwa [addr_add] at this

set_option maxHeartbeats 16000000 in
set_option maxRecDepth 1000000 in
theorem rpath_any (v : Value) (ws : Wk) (i : Nat) (L : List Nat) (w : World) (h : RK w.heap.size v ws w) (hw : WOk ws) (hp : PathIs ws i L) :
  Calls Try.prog 110 #[.agg #[v], .int .i64 i] w fun e w' => ∃ u, e = .returned u ∧ OwnG encI 1 3 w.heap.size u (L.map Int.ofNat) w' ∧ Below w.heap.size w w' := by
 obtain ⟨i0, hz0, hj0, hj1, hj2⟩ := info_parts infoInt
 obtain ⟨A, c, rfl, -⟩ := (show ∃ A c, v = .slice A ws.length c ∧ True by obtain ⟨A, c, e, _⟩ := h; exact ⟨A, c, e, trivial⟩)
 have C1 := Lib.hid fun W (S : Wd w (.slice A ws.length c) W) => rplaces_any A ws.length c ws W (h.up S.siz S.bel) (by have := hw.tot; omega)
 have C2 := Lib.hid fun (k : Nat) (r : Int) (hr : FstIs (fun o : Ou => o.into) (outs ws) k r) W (S : Wd w (.slice A ws.length c) W) => rfeeder_any A ws.length c ws k r W (h.up S.siz S.bel) (by have := hw.tot; omega) hr
 have S0 := Lib.hid (Wd.new (w := w) (v := .slice A ws.length c) 24)
 have HW := Lib.hid hw
 have HP := Lib.hid hp
 have HLL : Hid (L.length ≤ 100) := Lib.hid (by have := hp.len hw; have := hp.lt; have := hw.tot; omega)
 clear h hw hp
 go_enter Try.func110, Try.ntmps110
 go_wp2_with fail
 refine (C1.out _ S0.out).mono ?_
 rintro e w2 ⟨vp, rfl, hpl, b2⟩
 have S := Lib.hid (S0.out.below b2)
 have HO : Hid (RR enc2 w2.heap.size vp (plL ws) w2) := Lib.hid (hpl.rr E2 (by rw [plL_len]; have := HW.out.tot; omega))
 obtain ⟨Ap, cp, rfl, -⟩ := hpl.form
 rw [plL_len] at HO ⊢
 clear hpl b2 S0 C1
 go_wp2_with fail
 go_loopw [6, 7] (fun o u wr => ∃ (j : Nat) (l rest : List Nat), L = l ++ rest ∧ PathIs ws j l ∧ OwnG encI 1 3 w2.heap.size o ((j :: rest).map Int.ofNat) wr ∧ Below w2.heap.size w2 wr) (fun o _ _ => L.length + 1 - lenV o)
 case atStart =>
  refine ⟨i, L, [], by simp, HP.out, ?_, (Below.refl _ _).alloc (Nat.le_refl _) _⟩
  exact World.ownsRow_lit (size := 1) w2 #[.int .i64 i] 1 (Nat.le_refl _) (by unfold maxLen; omega) rfl
 case round =>
  obtain ⟨j, l, rest, hL, hpj, hO, hb⟩ := hrel
  obtain ⟨g, cu, rfl, hg0⟩ := row_head hO
  obtain ⟨p, hp⟩ : ∃ p, (allP ws)[j]? = some p := ⟨_, List.getElem?_eq_getElem (by rw [allP_len]; exact hpj.lt)⟩
  obtain ⟨r, hr⟩ := FstIs.exists_ (fun o : Ou => o.into) (outs ws) p.c
  have hpl : (plL ws)[j]? = some ((p.c : Int), (p.n : Int)) := (outs_get hp).2
  obtain ⟨bp, op, c2, e2, -, -⟩ := (HO.out.up (Nat.le_refl _) hb).at_ E2 hpl
  simp only [Value.slice.injEq] at e2
  obtain ⟨rfl, -, -⟩ := e2
  have hjt : (j : Int) < (total ws : Int) := by have := hpj.lt; omega
  have hrl : rest.length ≤ 100 := by have := HLL.out; rw [hL, List.length_append] at this; omega
  have J00 : Hid (PtH w w2 (.slice A ws.length c) g bp op j p.c (.slice (some ⟨g, 0, none⟩) (rest.length + 1) cu) ((j :: rest).map Int.ofNat) wr) := Lib.hid ⟨S.out.below hb, hg0, (HO.out.up (Nat.le_refl _) hb).cellsAt E2 hpl (i := 0) rfl, hO, hb⟩
  have HR := Lib.hid hr
  have HPJ := Lib.hid hpj
  have HPP := Lib.hid hp
  have HLE := Lib.hid hL
  clear hO hb hpl hr hpj hp hL hg0
  go_wp2_with fail
  refine wp_region_held_drew (S := PtH w w2 (.slice A ws.length c) g bp op j p.c (.slice (some ⟨g, 0, none⟩) (rest.length + 1) cu) ((j :: rest).map Int.ofNat)) (by kernel_rfl) (J00.out.below (Below.refl _ _).drew) (fun J0 => ?_)
  refine tw 0 12 J0 ?_ (hy := by intro w' hSw; have q0 := hSw.s.c; have q1 := hSw.out; have q2 := hSw.pl; go_simp; try with_reducible rfl)
  try simp only [aS]
  refine tw 1 13 J0 ?_ (hy := by intro w' hSw; have q0 := hSw.s.c; have q1 := hSw.out; have q2 := hSw.pl; go_simp; try with_reducible rfl)
  try simp only [aS]
  refine tw 2 14 J0 ?_ (hy := by intro w' hSw; have q0 := hSw.s.c; have q1 := hSw.out; have q2 := hSw.pl; go_simp; try with_reducible rfl)
  try simp only [aS]
  refine tw 3 15 J0 ?_ (hy := by intro w' hSw; have q0 := hSw.s.c; have q1 := hSw.out; have q2 := hSw.pl; go_simp; try with_reducible rfl)
  try simp only [aS]
  refine tw 4 16 J0 ?_ (hy := by intro w' hSw; have q0 := hSw.s.c; have q1 := hSw.out; have q2 := hSw.pl; go_simp; try with_reducible rfl)
  try simp only [aS]
  refine tw 5 17 J0 ?_ (hy := by intro w' hSw; have q0 := hSw.s.c; have q1 := hSw.out; have q2 := hSw.pl; go_simp; try with_reducible rfl)
  try simp only [aS]
  refine tw 6 18 J0 ?_ (hy := by intro w' hSw; have q0 := hSw.s.c; have q1 := hSw.out; have q2 := hSw.pl; go_simp; try with_reducible rfl)
  try simp only [aS]
  refine tw 7 19 J0 ?_ (hy := by intro w' hSw; have q0 := hSw.s.c; have q1 := hSw.out; have q2 := hSw.pl; go_simp; try with_reducible rfl)
  try simp only [aS]
  refine wpAnyH_ready (rs := [8]) (by kernel_rfl) (by simp) ?_
  refine AllReadyH.cons rfl (fun K hK => ?_) AllReadyH.nil
  go_simp
  refine (C2.out p.c r HR.out _ (J0).s).mono ?_
  rintro e wq1 ⟨rfl, hq1⟩
  have J1 := J0.below hq1
  clear hq1
  refine hK.out _ _ J1 (fun _ => ?_)
  clear hK K
  try simp only [aS]
  refine tw 9 7 J1 ?_ (hy := by intro w' hSw; have q0 := hSw.s.c; have q1 := hSw.out; have q2 := hSw.pl; go_simp; try with_reducible rfl)
  try simp only [aS]
  refine wpAnyH_done (by kernel_rfl) ?_ _
  have J1 := Lib.hid J1
  clear J0
  rcases HPJ.out.cases with ⟨hl, q, hq, hf⟩ | ⟨j', l', hl, q, hq, hf, hp'⟩
  ·obtain rfl : q = p := by rw [HPP.out] at hq; exact (Option.some.inj hq).symm
   obtain rfl : r = -1 := HR.out.unique hf
   have HL1 := Lib.hid hl
   clear hl hq hf
   go_wp2_with fail
   go_ret
   exact ⟨_, rfl, by
    have e : L = j :: rest := by rw [HLE.out, HL1.out]; rfl
    rw [e]
    exact (J1.out.row).low (by have := S.out.bel.size; omega), S.out.bel.trans (J1.out.b.mono S.out.bel.size)⟩
  ·obtain rfl : q = p := by rw [HPP.out] at hq; exact (Option.some.inj hq).symm
   obtain rfl : r = (j' : Int) := HR.out.unique hf
   have HL1 := Lib.hid hl
   have HP1 := Lib.hid hp'
   have hr0 : (0 : Int) ≤ (j' : Int) := by omega
   have hbase := J1.out.b.size
   have hv : OwnG encI 1 3 w2.heap.size (.slice (some ⟨wq1.heap.size, 0, none⟩) 1 1) [(j' : Int)] (wq1.alloc (.cells #[.int .i64 j'] 3)) := World.ownsRow_lit (size := 1) wq1 #[.int .i64 j'] 1 hbase (by unfold maxLen; omega) rfl
   have hy : RR encI wq1.heap.size (.slice (some ⟨g, 0, none⟩) (rest.length + 1) cu) ((j :: rest).map Int.ofNat) wq1 := J1.out.row.rr EI (by simp; omega)
   obtain ⟨v', W', r1, o1, g1, s1⟩ := app_list (P := Try.prog) EI Try.underlying25 hz0 hj0 hj1 hj2 rfl hv hy ((Below.refl _ _).alloc (Nat.le_refl _) _) (by simp; omega) (by simp) (by simp; omega) (by decide)
   have R1 := Lib.hid r1
   have HO1 : Hid (OwnG encI 1 3 w2.heap.size v' ((j' :: j :: rest).map Int.ofNat) W') := Lib.hid o1
   have BB : Hid (Below w2.heap.size w2 W') := Lib.hid ((J1.out.b.trans (((Below.refl wq1.heap.size wq1).alloc (Nat.le_refl _) (.cells #[.int .i64 j'] 3)).mono hbase)).trans (g1.below (fun b hb => by simp [Value.ownBlock] at hb; omega) (by simp; omega)))
   clear r1 o1 g1 s1 hv hy hl hq hf hp'
   obtain ⟨g2, cu2, rfl, -⟩ := row_head HO1.out
   go_wp2_with (at_builtin; refine Lib.wpList_append_run _ rfl _ _ _ _ rfl _ _ rfl rfl _ W' R1.out ?_)
   go_roundw
   case rel => exact ⟨j', l', j :: rest, by rw [HLE.out, HL1.out]; simp, HP1.out, HO1.out, BB.out⟩
   case measure =>
    have : L.length = l'.length + 1 + rest.length := by rw [HLE.out, HL1.out]; simp; omega
    have := HP1.out.pos
    simp only [lenV]
    omega
end Go.Proofs.Ytkoacclbempmdaa

/- Contract of the specification's Path. -/
namespace Go.Proofs.Ytkoacclbempmdaa
open Go.RowKit

/-- The ID of an outlet, by its number in order. -/
def idAt (ws : Wk) (k : Nat) : Int := match (outs ws)[k]? with
 | some o => o.id
 | none => 0
theorem idAt_eq {ws : Wk} {k : Nat} {o : Ou} (h : (outs ws)[k]? = some o) : idAt ws k = o.id := by unfold idAt; rw [h]
theorem PathIs.mem {ws : Wk} {i : Nat} {l : List Nat} (h : PathIs ws i l) : ∀ k ∈ l, k < total ws := by
 induction h with
 | head hp hf =>
  intro k hk
  simp at hk
  subst hk
  rw [← allP_len]
  exact (List.getElem?_eq_some_iff.1 hp).1
 | step hp hf h ih =>
  intro k hk
  rcases List.mem_append.1 hk with h' | h'
  ·exact ih k h'
  ·simp at h'
   subst h'
   rw [← allP_len]
   exact (List.getElem?_eq_some_iff.1 hp).1
/-- What Path says. -/
def PathR (ws : Wk) (id d : Int) (M : List Int) : Prop := ∃ i, KnownIs ws id i d ∧ ((d ≠ 0 ∧ M = []) ∨ (d = 0 ∧ ∃ (k : Nat) (L : List Nat), i = k ∧ PathIs ws k L ∧ M = L.map (idAt ws)))
theorem KnownIs.chk {ws : Wk} {id i : Int} (h : KnownIs ws id i 0) : WOk ws ∧ FstIs (fun o : Ou => o.id) (outs ws) id i ∧ 0 ≤ i := by
 rcases h with ⟨_, h, _⟩ | ⟨_, _, _, h⟩ | ⟨h1, h2, h3, _⟩
 ·exact absurd rfl h
 ·omega
 ·exact ⟨h1.ok, h2, h3⟩
theorem FstIs.lt {α : Type} {f : α → Int} {l : List α} {x i : Int} (h : FstIs f l x i) (h0 : 0 ≤ i) : i.toNat < l.length := by
 rcases h with ⟨k, p, hp, _, _, rfl⟩ | ⟨_, rfl⟩
 ·simpa using (List.getElem?_eq_some_iff.1 hp).1
 ·omega
theorem PathR.exists_ (ws : Wk) (id : Int) : ∃ d M, PathR ws id d M := by
 obtain ⟨i, d, h⟩ := KnownIs.exists_ ws id
 by_cases hd : d = 0
 ·subst hd
  obtain ⟨hw, hf, hi⟩ := h.chk
  have hl := hf.lt hi
  rw [outs_len] at hl
  obtain ⟨L, hL⟩ := PathIs.exists_ hw (i.toNat + 1) i.toNat (by omega) hl
  exact ⟨0, _, i, h, .inr ⟨rfl, i.toNat, L, by omega, hL, rfl⟩⟩
 ·exact ⟨d, [], i, h, .inl ⟨hd, rfl⟩⟩

set_option maxHeartbeats 16000000 in
set_option maxRecDepth 1000000 in
theorem rPath_any (v : Value) (ws : Wk) (id d : Int) (M : List Int) (w : World) (h : RK w.heap.size v ws w) (ht : total ws ≤ 100000) (hc : PathR ws id d M) :
  Calls Try.prog 51 #[.agg #[v], .int .i64 id] w fun e w' => ∃ u, e = .returned (.agg #[u, .int .i64 d]) ∧ OwnG encI 1 3 w.heap.size u M w' ∧ Below w.heap.size w w' := by
 obtain ⟨i0, hz0, hj0, hj1, hj2⟩ := info_parts infoInt
 obtain ⟨A, c, rfl, -⟩ := (show ∃ A c, v = .slice A ws.length c ∧ True by obtain ⟨A, c, e, _⟩ := h; exact ⟨A, c, e, trivial⟩)
 obtain ⟨i, hk, hc⟩ := hc
 have C1 := Lib.hid fun W (S : Wd w (.slice A ws.length c) W) => rknown_any (.slice A ws.length c) ws id i d W (h.up S.siz S.bel) ht hk
 have C2 := Lib.hid fun W (S : Wd w (.slice A ws.length c) W) => routlets_any A ws.length c ws W (h.up S.siz S.bel) ht
 have C3 := Lib.hid fun (hw : WOk ws) (k : Nat) (L : List Nat) (hL : PathIs ws k L) W (S : Wd w (.slice A ws.length c) W) => rpath_any (.slice A ws.length c) ws k L W (h.up S.siz S.bel) hw hL
 have HK := Lib.hid hk
 have S0 := Lib.hid ((Wd.new (w := w) (v := .slice A ws.length c) 24).below ((Below.refl _ _).alloc (Nat.le_refl _) (.cells #[.slice none 0 0, .int .i64 0] 86)))
 have R0 := Lib.hid (Rb.new w (.slice A ws.length c))
 have HC := Lib.hid hc
 clear h hc hk
 go_enter Try.func51, Try.ntmps51
 go_wp2_with fail
 refine (C1.out _ S0.out).mono ?_
 rintro e w1 ⟨rfl, b1⟩
 have S := Lib.hid (S0.out.below b1)
 have RB := Lib.hid (R0.out.below b1 (by simp))
 have t0 := S.out.c
 clear b1 S0 C1 R0
 rcases HC.out with ⟨hd, rfl⟩ | ⟨rfl, k, L, rfl, hL, rfl⟩
 ·have HD := Lib.hid hd
  have r0 := RB.out.c0
  have r1 := RB.out.c1
  have r2 := RB.out.f0
  have r3 := RB.out.f1
  clear t0 HC
  go_wp2_with fail
  obtain ⟨p0, p1, bb, gg⟩ := RB.out.ret S.out.bel (.slice none 0 0) d
  refine bodyPost_ret (v := .agg #[.slice none 0 0, .int .i64 d]) (by simp [results, Try.results51, go_sem, p0, p1]) rfl ?_
  exact ⟨_, rfl, OwnG.nil _ _ _ _ _, bb⟩
 ·have HL := Lib.hid hL
  have HW := Lib.hid HK.out.chk.1
  clear HC hL
  go_wp2_with fail
  refine (C2.out _ S.out).mono ?_
  rintro e w2 ⟨u, rfl, ho, b2⟩
  have HO0 : Hid (RR encO w2.heap.size u (outs ws) w2) := Lib.hid (ho.rr EO (by rw [outs_len]; have := HW.out.tot; omega))
  have S2 := Lib.hid (S.out.below b2)
  have R2 := Lib.hid (RB.out.below b2 RB.out.siz)
  obtain ⟨Ao, co, rfl, -⟩ := ho.form
  rw [outs_len] at HO0 ⊢
  clear ho b2 S RB t0
  have t0 := S2.out.c
  go_wp2_with fail
  refine (C3.out HW.out k L HL.out _ S2.out).mono ?_
  rintro e w3 ⟨u, rfl, hp, b3⟩
  have HO : Hid (RR encO w3.heap.size (.slice Ao (total ws) co) (outs ws) w3) := Lib.hid (HO0.out.up b3.size b3)
  have HLn : Hid (L.length ≤ 100) := Lib.hid (by have := HL.out.len HW.out; have := HL.out.lt; have := HW.out.tot; omega)
  have HPL : Hid (RR encI w3.heap.size u (L.map Int.ofNat) w3) := Lib.hid (hp.rr EI (by rw [List.length_map]; have := HLn.out; omega))
  have S3 := Lib.hid (S2.out.below b3)
  have R3 := Lib.hid (R2.out.below b3 R2.out.siz)
  obtain ⟨Ap, cp, rfl, -⟩ := hp.form
  rw [List.length_map] at HPL ⊢
  clear hp b3 S2 R2 t0 HO0
  go_wp2_with fail
  have hll : (L.length : Int) ≤ 100 := by have := HLn.out; omega
  go_loopw [9, 10] (fun o u wr => ∃ n : Nat, u = .int .i64 n ∧ n ≤ L.length ∧ OwnG encI 1 3 w3.heap.size o ((L.take n).map (idAt ws)) wr ∧ Below w3.heap.size w3 wr) (fun _ u _ => L.length - (intOf u).toNat)
  case atStart => exact ⟨0, rfl, by omega, OwnG.nil _ _ _ _ _, Below.refl _ _⟩
  case round =>
   obtain ⟨n, rfl, hn, hv, hb⟩ := hrel
   have HV := Lib.hid hv
   have HB := Lib.hid hb
   obtain ⟨Av, cv, rfl, -⟩ := hv.form
   have hvl : ((L.take n).map (idAt ws)).length = n := by rw [List.length_map, List.length_take]; omega
   rw [hvl]
   have HO2 : Hid (wr.ownsRow w3.heap.size 3 1 (.slice Av n cv) n (((L.take n).map (idAt ws)).flatMap encI)) := Lib.hid (by have := HV.out; unfold OwnG at this; rwa [hvl] at this)
   have HVL := Lib.hid hvl
   clear hv hvl
   by_cases hil : n < L.length
   ·have hi0 : (n : Int) < (L.length : Int) := by omega
    obtain ⟨q, hq⟩ : ∃ q, L[n]? = some q := ⟨_, List.getElem?_eq_getElem hil⟩
    have hqt : q < total ws := HL.out.mem q (List.mem_of_getElem? hq)
    have hq0 : (q : Int) < (total ws : Int) := by omega
    obtain ⟨p, hp⟩ : ∃ p, (outs ws)[q]? = some p := ⟨_, List.getElem?_eq_getElem (by rw [outs_len]; exact hqt)⟩
    have hqm : (L.map Int.ofNat)[n]? = some (q : Int) := by rw [List.getElem?_map, hq]; rfl
    have HT : Hid ((L.take (n + 1)).map (idAt ws) = (L.take n).map (idAt ws) ++ [p.id]) := Lib.hid (by rw [take_at hq, List.map_append, List.map_singleton, idAt_eq hp])
    obtain ⟨bo, oo, c1, e1, -, -⟩ := (HO.out.up (Nat.le_refl _) hb).at_ EO hp
    simp only [Value.slice.injEq] at e1
    obtain ⟨rfl, -, -⟩ := e1
    obtain ⟨bq, oq, c2, e2, -, -⟩ := (HPL.out.up (Nat.le_refl _) hb).at_ EI hqm
    simp only [Value.slice.injEq] at e2
    obtain ⟨rfl, -, -⟩ := e2
    have q0 : wr.cell? ⟨bo, oo + q * 7, none⟩ = some (.int .i64 p.id) := (HO.out.up (Nat.le_refl _) hb).cellsAt EO hp (i := 0) rfl
    have q1 : wr.cell? ⟨bq, oq + n, none⟩ = some (.int .i64 q) := by have := (HPL.out.up (Nat.le_refl _) hb).cellsAt EI hqm (i := 0) rfl; rwa [Nat.mul_one] at this
    have hbs := hb.size
    have hnb : n ≤ 100 := by have := HLn.out; omega
    clear hp hqm hq
    go_wp2_with (at_builtin; refine wpList_append_own _ rfl _ _ 25 rfl w3.heap.size 3 i0 (.int .i64 0) 1 8 Try.underlying25 hz0 hj0 hj1 hj2 rfl (by decide) _ n _ rfl (HO2.out.alloc _) ⟨wr.heap.size, 0, none⟩ 1 1 [.int .i64 p.id] rfl rfl (fun i u hi => one_news wr (.int .i64 p.id) 3 i u hi) (fun u hu => one_one p.id u hu) ?c3 ?c4 ?c5 ?_)
    case c3 => unfold maxLen; omega
    case c4 => omega
    case c5 => first | (simp <;> omega) | omega
    intro v' w4 hown' hgrow _
    have HLT := Lib.hid fun q (hq : q ∈ (Value.ownBlock (.slice Av n cv)).toList) => HO2.out.lt q (by simpa using hq)
    have g1 := (GrownL.of_below ((Below.refl wr.heap.size wr).alloc (Nat.le_refl _) (.cells #[.int .i64 p.id] 3))).trans (GrownL.of_row hgrow)
    have R : Hid (OwnG encI 1 3 w3.heap.size v' ((L.take (n + 1)).map (idAt ws)) w4) := Lib.hid (by
     rw [HT.out]
     unfold OwnG
     rw [List.flatMap_append, List.length_append, HVL.out]
     try rw [← List.map_take] at hown'
     exact hown')
    have BB := Lib.hid (HB.out.trans (g1.below (fun q hq => (HLT.out q hq).1) HB.out.size))
    clear hown' hgrow g1
    obtain ⟨Av', cv', rfl, -⟩ := R.out.form
    go_wp2_with fail
    go_roundw
    case rel => exact ⟨n + 1, by go_num, by omega, R.out, BB.out⟩
    case measure => show L.length - ((n : Int) + 1).toNat < L.length - (n : Int).toNat; omega
   ·have hi0 : (L.length : Int) ≤ (n : Int) := by omega
    obtain rfl : n = L.length := by omega
    have HE : Hid ((L.take L.length).map (idAt ws) = L.map (idAt ws)) := Lib.hid (by rw [List.take_length])
    rw [HE.out] at HV
    have SE := Lib.hid (S3.out.below hb)
    have RE := Lib.hid (R3.out.below hb R3.out.siz)
    have r0 := RE.out.c0
    have r1 := RE.out.c1
    have r2 := RE.out.f0
    have r3 := RE.out.f1
    go_wp2_with fail
    obtain ⟨p0, p1, bb, gg⟩ := RE.out.ret SE.out.bel (.slice Av L.length cv) 0
    refine bodyPost_ret (v := .agg #[.slice Av L.length cv, .int .i64 0]) (by simp [results, Try.results51, go_sem, p0, p1]) rfl ?_
    have HV2 : OwnG encI 1 3 w3.heap.size (.slice Av L.length cv) (L.map (idAt ws)) wr := by have := HV.out; first | exact this | rwa [List.length_map] at this
    exact ⟨_, rfl, (HV2.grown gg (fun q hq hm => by have := (HV2.lt q hq).1; have := R3.out.siz; simp at hm; omega)).low (by have := R3.out.siz; omega), bb⟩
end Go.Proofs.Ytkoacclbempmdaa

/- Contract of the specification's Below. -/
namespace Go.Proofs.Ytkoacclbempmdaa
open Go.RowKit

open Classical in
/-- The path of an outlet. -/
noncomputable def pathOf (ws : Wk) (i : Nat) : List Nat := if h : ∃ l, PathIs ws i l then Classical.choose h else []
theorem pathOf_is {ws : Wk} (hw : WOk ws) {i : Nat} (hi : i < total ws) : PathIs ws i (pathOf ws i) := by
 have h := PathIs.exists_ hw (i + 1) i (by omega) hi
 unfold pathOf
 rw [dif_pos h]
 exact Classical.choose_spec h
/-- Whether water comes to a bed by an outlet. -/
noncomputable def belowP (ws : Wk) (i k : Nat) : Bool := decide (i ∈ pathOf ws k) && (match (outs ws)[k]? with
 | some o => decide (o.into < 0)
 | none => false)
theorem belowP_eq {ws : Wk} {i k : Nat} {o : Ou} (h : (outs ws)[k]? = some o) : belowP ws i k = (decide (i ∈ pathOf ws k) && decide (o.into < 0)) := by unfold belowP; rw [h]
noncomputable def belL (ws : Wk) (i n : Nat) : List Int := ((List.range n).filter (belowP ws i)).map (idAt ws)
theorem belL_succ (ws : Wk) (i n : Nat) : belL ws i (n + 1) = belL ws i n ++ (if belowP ws i n then [idAt ws n] else []) := by
 unfold belL
 rw [List.range_succ, List.filter_append, List.map_append]
 congr 1
 cases h : belowP ws i n <;> simp [h]
theorem belL_len (ws : Wk) (i n : Nat) : (belL ws i n).length ≤ n := by
 unfold belL
 rw [List.length_map]
 exact Nat.le_trans (List.length_filter_le _ _) (by simp)
/-- What Below says. -/
def BelowR (ws : Wk) (id d : Int) (M : List Int) : Prop := ∃ i, KnownIs ws id i d ∧ ((d ≠ 0 ∧ M = []) ∨ (d = 0 ∧ ∃ k : Nat, i = k ∧ M = belL ws k (total ws)))
theorem BelowR.exists_ (ws : Wk) (id : Int) : ∃ d M, BelowR ws id d M := by
 obtain ⟨i, d, h⟩ := KnownIs.exists_ ws id
 by_cases hd : d = 0
 ·subst hd
  obtain ⟨hw, hf, hi⟩ := h.chk
  exact ⟨0, _, i, h, .inr ⟨rfl, i.toNat, by omega, rfl⟩⟩
 ·exact ⟨d, [], i, h, .inl ⟨hd, rfl⟩⟩

set_option maxHeartbeats 16000000 in
set_option maxRecDepth 1000000 in
theorem rBelow_any (v : Value) (ws : Wk) (id d : Int) (M : List Int) (w : World) (h : RK w.heap.size v ws w) (ht : total ws ≤ 100000) (hc : BelowR ws id d M) :
  Calls Try.prog 53 #[.agg #[v], .int .i64 id] w fun e w' => ∃ u, e = .returned (.agg #[u, .int .i64 d]) ∧ OwnG encI 1 3 w.heap.size u M w' ∧ Below w.heap.size w w' := by
 obtain ⟨i0, hz0, hj0, hj1, hj2⟩ := info_parts infoInt
 obtain ⟨A, c, rfl, -⟩ := (show ∃ A c, v = .slice A ws.length c ∧ True by obtain ⟨A, c, e, _⟩ := h; exact ⟨A, c, e, trivial⟩)
 obtain ⟨i, hk, hc⟩ := hc
 have C1 := Lib.hid fun W (S : Wd w (.slice A ws.length c) W) => rknown_any (.slice A ws.length c) ws id i d W (h.up S.siz S.bel) ht hk
 have C2 := Lib.hid fun W (S : Wd w (.slice A ws.length c) W) => routlets_any A ws.length c ws W (h.up S.siz S.bel) ht
 have C3 := Lib.hid fun (hw : WOk ws) (k : Nat) (L : List Nat) (hL : PathIs ws k L) W (S : Wd w (.slice A ws.length c) W) => rpath_any (.slice A ws.length c) ws k L W (h.up S.siz S.bel) hw hL
 have HK := Lib.hid hk
 have S0 := Lib.hid ((Wd.new (w := w) (v := .slice A ws.length c) 24).below ((Below.refl _ _).alloc (Nat.le_refl _) (.cells #[.slice none 0 0, .int .i64 0] 86)))
 have R0 := Lib.hid (Rb.new w (.slice A ws.length c))
 have HC := Lib.hid hc
 clear h hc hk
 go_enter Try.func53, Try.ntmps53
 go_wp2_with fail
 refine (C1.out _ S0.out).mono ?_
 rintro e w1 ⟨rfl, b1⟩
 have S := Lib.hid (S0.out.below b1)
 have RB := Lib.hid (R0.out.below b1 (by simp))
 have t0 := S.out.c
 clear b1 S0 C1 R0
 rcases HC.out with ⟨hd, rfl⟩ | ⟨rfl, k, rfl, rfl⟩
 ·have HD := Lib.hid hd
  have r0 := RB.out.c0
  have r1 := RB.out.c1
  have r2 := RB.out.f0
  have r3 := RB.out.f1
  clear t0 HC
  go_wp2_with fail
  obtain ⟨p0, p1, bb, gg⟩ := RB.out.ret S.out.bel (.slice none 0 0) d
  refine bodyPost_ret (v := .agg #[.slice none 0 0, .int .i64 d]) (by simp [results, Try.results53, go_sem, p0, p1]) rfl ?_
  exact ⟨_, rfl, OwnG.nil _ _ _ _ _, bb⟩
 ·have HW := Lib.hid HK.out.chk.1
  clear HC
  go_wp2_with fail
  refine (C2.out _ S.out).mono ?_
  rintro e w2 ⟨u, rfl, ho, b2⟩
  have HO0 : Hid (RR encO w2.heap.size u (outs ws) w2) := Lib.hid (ho.rr EO (by rw [outs_len]; have := HW.out.tot; omega))
  have S2 := Lib.hid (S.out.below b2)
  have R2 := Lib.hid (RB.out.below b2 RB.out.siz)
  obtain ⟨Ao, co, rfl, -⟩ := ho.form
  rw [outs_len] at HO0 ⊢
  clear ho b2 S RB t0
  have t0 := S2.out.c
  clear t0
  have hto : total ws ≤ 60 := HW.out.tot
  have htl : (total ws : Int) ≤ 60 := by omega
  have C4 := Lib.hid fun (n : Nat) (hn : n < total ws) => pathOf_is HW.out hn
  go_wp2_with fail
  go_loopw [8, 9, 10] (fun o u _ wr => ∃ n : Nat, u = .int .i64 n ∧ n ≤ total ws ∧ OwnG encI 1 3 w2.heap.size o (belL ws k n) wr ∧ Below w2.heap.size w2 wr) (fun _ u _ _ => total ws - (intOf u).toNat)
  case atStart => exact ⟨0, rfl, by omega, OwnG.nil _ _ _ _ _, Below.refl _ _⟩
  case round =>
   obtain ⟨n, rfl, hn, hv, hb⟩ := hrel
   have HV := Lib.hid hv
   have HB := Lib.hid hb
   obtain ⟨Av, cv, rfl, -⟩ := hv.form
   have SR := Lib.hid (S2.out.below hb)
   have t0 := SR.out.c
   clear hv hb
   by_cases hil : n < total ws
   ·have hi0 : (n : Int) < (total ws : Int) := by omega
    go_wp2_with fail
    obtain ⟨L, hLe⟩ : ∃ L, pathOf ws n = L := ⟨_, rfl⟩
    have HPA : Hid (PathIs ws n L) := Lib.hid (hLe ▸ C4.out n hil)
    have HLE := Lib.hid hLe
    clear hLe
    have HLN : Hid (L.length ≤ 100) := Lib.hid (by have := HPA.out.len HW.out; omega)
    refine (C3.out HW.out n L HPA.out _ SR.out).mono ?_
    rintro e w3 ⟨u, rfl, hp, b3⟩
    have HPL : Hid (RR encI w3.heap.size u (L.map Int.ofNat) w3) := Lib.hid (hp.rr EI (by rw [List.length_map]; have := HLN.out; omega))
    have HV3 := Lib.hid (HV.out.below b3)
    have HB3 := Lib.hid (HB.out.trans (b3.mono HB.out.size))
    obtain ⟨Ap, cp, rfl, -⟩ := hp.form
    rw [List.length_map] at HPL ⊢
    clear hp b3 HV HB SR t0
    go_wp2_with fail
    refine (rin_any _ (L.map Int.ofNat) k w3 HPL.out (by rw [List.length_map]; have := HLN.out; omega)).mono ?_
    rintro e w4 ⟨rfl, b4⟩
    have HV4 := Lib.hid (HV3.out.below b4)
    have HB4 := Lib.hid (HB3.out.trans (b4.mono HB3.out.size))
    clear HV3 HB3 HPL
    obtain ⟨p, hp⟩ : ∃ p, (outs ws)[n]? = some p := ⟨_, List.getElem?_eq_getElem (by rw [outs_len]; exact hil)⟩
    have hmem : decide ((k : Int) ∈ L.map Int.ofNat) = decide (k ∈ L) := by
     by_cases h : k ∈ L
     ·rw [decide_eq_true h, decide_eq_true (show (k : Int) ∈ L.map Int.ofNat from List.mem_map.2 ⟨k, h, rfl⟩)]
     ·rw [decide_eq_false h, decide_eq_false (show ¬ (k : Int) ∈ L.map Int.ofNat from fun h' => by
       obtain ⟨j, hj, e⟩ := List.mem_map.1 h'
       obtain rfl : j = k := Int.ofNat_inj.1 e
       exact h hj)]
    rw [hmem]
    have HS := Lib.hid (belL_succ ws k n)
    have HBP : Hid (belowP ws k n = (decide (k ∈ L) && decide (p.into < 0))) := Lib.hid (HLE.out ▸ belowP_eq (i := k) hp)
    have HID := Lib.hid (idAt_eq hp)
    obtain ⟨bo, oo, c1, e1, -, -⟩ := (HO0.out.up (Nat.le_refl _) HB4.out).at_ EO hp
    simp only [Value.slice.injEq] at e1
    obtain ⟨rfl, -, -⟩ := e1
    have q0 : w4.cell? ⟨bo, oo + n * 7, none⟩ = some (.int .i64 p.id) := (HO0.out.up (Nat.le_refl _) HB4.out).cellsAt EO hp (i := 0) rfl
    have q1 : w4.cell? ⟨bo, oo + n * 7 + 1, none⟩ = some (.int .i64 p.into) := (HO0.out.up (Nat.le_refl _) HB4.out).cellsAt EO hp (i := 1) rfl
    obtain ⟨b, hb⟩ : ∃ b, decide (k ∈ L) = b := ⟨_, rfl⟩
    rw [hb] at HBP ⊢
    clear hb hp hmem
    obtain ⟨l, hl⟩ : ∃ l, belL ws k n = l := ⟨_, rfl⟩
    have hln := belL_len ws k n
    rw [hl] at HV4 HS hln ⊢
    obtain ⟨m, hm⟩ : ∃ m, l.length = m := ⟨_, rfl⟩
    have HM := Lib.hid hm
    rw [hm] at hln ⊢
    have HO2 : Hid (w4.ownsRow w2.heap.size 3 1 (.slice Av m cv) m (l.flatMap encI)) := Lib.hid (by have := HV4.out; unfold OwnG at this; rwa [hm] at this)
    clear hl hm HV4
    have hbs := HB4.out.size
    cases b
    ·go_wp2_with fail
     go_roundw
     case rel => exact ⟨n + 1, by go_num, by omega, by rw [HS.out, HBP.out]; simp only [Bool.false_and, Bool.false_eq_true, if_false, List.append_nil]; unfold OwnG; rw [HM.out]; exact HO2.out, HB4.out⟩
     case measure => show total ws - ((n : Int) + 1).toNat < total ws - (n : Int).toNat; omega
    ·by_cases hneg : p.into < 0
     ·have HT : Hid (belL ws k (n + 1) = l ++ [p.id]) := Lib.hid (by rw [HS.out, HBP.out, HID.out]; simp [hneg])
      go_wp2_with (at_builtin; refine wpList_append_own _ rfl _ _ 25 rfl w2.heap.size 3 i0 (.int .i64 0) 1 8 Try.underlying25 hz0 hj0 hj1 hj2 rfl (by decide) _ m _ rfl (HO2.out.alloc _) ⟨w4.heap.size, 0, none⟩ 1 1 [.int .i64 p.id] rfl rfl (fun i u hi => one_news w4 (.int .i64 p.id) 3 i u hi) (fun u hu => one_one p.id u hu) ?c3 ?c4 ?c5 ?_)
      case c3 => unfold maxLen; omega
      case c4 => omega
      case c5 => first | (simp <;> omega) | omega
      intro v' w5 hown' hgrow _
      have HLT := Lib.hid fun q (hq : q ∈ (Value.ownBlock (.slice Av m cv)).toList) => HO2.out.lt q (by simpa using hq)
      have g1 := (GrownL.of_below ((Below.refl w4.heap.size w4).alloc (Nat.le_refl _) (.cells #[.int .i64 p.id] 3))).trans (GrownL.of_row hgrow)
      have R : Hid (OwnG encI 1 3 w2.heap.size v' (belL ws k (n + 1)) w5) := Lib.hid (by
       rw [HT.out]
       unfold OwnG
       rw [List.flatMap_append, List.length_append, HM.out]
       exact hown')
      have BB := Lib.hid (HB4.out.trans (g1.below (fun q hq => (HLT.out q hq).1) HB4.out.size))
      clear hown' hgrow g1
      obtain ⟨Av', cv', rfl, -⟩ := R.out.form
      go_wp2_with fail
      go_roundw
      case rel => exact ⟨n + 1, by go_num, by omega, R.out, BB.out⟩
      case measure => show total ws - ((n : Int) + 1).toNat < total ws - (n : Int).toNat; omega
     ·have HT : Hid (belL ws k (n + 1) = l) := Lib.hid (by rw [HS.out, HBP.out]; simp [hneg])
      go_wp2_with fail
      go_roundw
      case rel => exact ⟨n + 1, by go_num, by omega, by rw [HT.out]; unfold OwnG; rw [HM.out]; exact HO2.out, HB4.out⟩
      case measure => show total ws - ((n : Int) + 1).toNat < total ws - (n : Int).toNat; omega
   ·have hi0 : (total ws : Int) ≤ (n : Int) := by omega
    obtain rfl : n = total ws := by omega
    have RE := Lib.hid (R2.out.below HB.out R2.out.siz)
    have r0 := RE.out.c0
    have r1 := RE.out.c1
    have r2 := RE.out.f0
    have r3 := RE.out.f1
    clear t0
    go_wp2_with fail
    obtain ⟨p0, p1, bb, gg⟩ := RE.out.ret SR.out.bel (.slice Av (belL ws k (total ws)).length cv) 0
    refine bodyPost_ret (v := .agg #[.slice Av (belL ws k (total ws)).length cv, .int .i64 0]) (by simp [results, Try.results53, go_sem, p0, p1]) rfl ?_
    exact ⟨_, rfl, (HV.out.grown gg (fun q hq hm => by have := (HV.out.lt q hq).1; have := R2.out.siz; simp at hm; omega)).low (by have := R2.out.siz; omega), bb⟩
end Go.Proofs.Ytkoacclbempmdaa
