/- The law CarrierChecks (promises 2.1 and 2.2: Check, Heads, Outlets, Beds, Path and Below return what the specification returns) returns true for every works and every ID, and leaves them as they read.
   Conditions: none beyond the given row's own (the program at the commit in COMMIT; arguments that lie in memory as the row says). -/
import Derived.Test.YtmmbmnihhdhbeaaGZD
import Derived.Test.YtmmbmnihhdhbeaaOO6
import Derived.Test.YtmmbmnihhdhbeaaGJ
import Derived.Test.YtmmbmnihhdhbeaaGZC
import Derived.Test.YtmmbmnihhdhbeaaGZH
namespace Go.Proofs.Ytmmbmnihhdhbeaa
open Go.RowKit

theorem id_wf {ws : Wk} (hw : WOk ws) {n : Nat} {p : Pl} (hp : (allP ws)[n]? = some p) : (Lit.int .i64 p.o.id).wf = true := by
  have := hw.ou hp
  have h3 := this.i0
  have h4 := this.i1
  have m0 : IntKind.i64.min = -9223372036854775808 := rfl
  have m1 : IntKind.i64.max = 9223372036854775807 := rfl
  simp only [Lit.wf, m0, m1, Bool.and_eq_true, decide_eq_true_eq]
  omega
theorem fst_id {ws : Wk} {id : Int} {n : Nat} {p : Pl} (hf : FstIs (fun o : Ou => o.id) (outs ws) id n) (hp : (allP ws)[n]? = some p) : p.o.id = id := by
  rcases hf with ⟨k, o, ho, he, _, hk⟩ | ⟨_, h⟩
  · obtain rfl : n = k := by omega
    rw [(outs_get hp).1] at ho
    cases ho
    exact he
  · omega
theorem byId_all {ws : Wk} (hw : WOk ws) {n : Nat} {p : Pl} (hp : (allP ws)[n]? = some p) : byIdS ws (allP ws) p.o.id = pathV ws n := by
  have := byIdS_at hw (lt_total hp) hp
  rwa [List.take_of_length_le (by rw [allP_len]; exact Nat.le_refl _)] at this
def PathPost (d : Int) (M : List Int) (w : World) (e : Ending) (w' : World) : Prop := ∃ u, e = .returned (.tuple #[u, .int .i64 d]) ∧ OwnG encI 1 3 w.heap.size u M w' ∧ Below w.heap.size w w'
set_option maxHeartbeats 8000000 in
set_option maxRecDepth 1000000 in
theorem Path_any (v : Value) (ws : Wk) (id d : Int) (M : List Int) (w : World) (h : RK w.heap.size v ws w) (ht : total ws ≤ 100000) (hc : PathR ws id d M) :
    Calls Try.prog 50 #[.agg #[v], .int .i64 id] w (PathPost d M w) := by
  obtain ⟨A, c, rfl, -⟩ := (show ∃ A c, v = .slice A ws.length c ∧ True by obtain ⟨A, c, e, _⟩ := h; exact ⟨A, c, e, trivial⟩)
  obtain ⟨i, hk, hc⟩ := hc
  have C1 := Lib.hid fun W (S : Wd w (.slice A ws.length c) W) => checkOutlet_any (.slice A ws.length c) ws id i d W (h.up S.siz S.bel) ht hk
  have C2 := Lib.hid fun (hw : WOk ws) W (S : Wd w (.slice A ws.length c) W) => paths_any A c ws W (h.up S.siz S.bel) hw
  have S0 := Lib.hid (Wd.new (w := w) (v := .slice A ws.length c) 24)
  have HK := Lib.hid hk
  have HC := Lib.hid hc
  clear h hk hc
  go_enter Try.func50, Try.ntmps50
  go_wp2_with fail
  refine (C1.out _ S0.out).mono ?_
  rintro e w1 ⟨rfl, b1⟩
  have S := Lib.hid (S0.out.below b1)
  clear b1
  by_cases h0 : d = 0
  rotate_left
  · have hdb : (d != 0) = true := by rw [bne_iff_ne]; exact h0
    have HM : Hid (M = []) := Lib.hid (by rcases HC.out with ⟨_, h⟩ | ⟨h, _⟩; exact h; exact absurd h h0)
    go_wp2_with fail
    refine bodyPost_ret (results_tmp2 rfl _ _ _) rfl ?_
    exact ⟨_, rfl, by rw [HM.out]; exact OwnG.nil _ _ _ _ _, S.out.bel⟩
  subst h0
  obtain ⟨n, p, rfl, hf, hp⟩ := HK.out.at_
  have hw := HK.out.chk.1
  have HW := Lib.hid hw
  obtain rfl := fst_id hf hp
  have HWF := Lib.hid (id_wf hw hp)
  have HM : Hid (M = byIdS ws (allP ws) p.o.id) := Lib.hid (by
    rcases HC.out with ⟨h, _⟩ | ⟨_, k, L, hk, hL, rfl⟩
    · exact absurd rfl h
    · obtain rfl : n = k := by omega
      rw [byId_all hw hp]
      unfold pathV
      rw [pathOf_eq hw hL])
  have x0 := S.out.c
  clear hw hf hp HC
  go_wp2_with fail
  refine (C2.out HW.out _ S.out).mono ?_
  rintro e w2 ⟨rfl, hpm, b2⟩
  have S2 := Lib.hid (S.out.below b2)
  obtain ⟨u, hu, hrun⟩ := hpm.look p.o.id HWF.out
  have HU := Lib.hid hu
  have hrun2 := hrun w2 rfl
  clear b2 x0 hpm hrun hu
  go_wp2_with fail
  refine bodyPost_ret (results_tmp2 rfl _ _ _) rfl ?_
  exact ⟨u, rfl, by rw [HM.out]; exact HU.out.low (by have := S.out.siz; omega), S2.out.bel⟩
end Go.Proofs.Ytmmbmnihhdhbeaa

/- Contract of Below. -/
namespace Go.Proofs.Ytmmbmnihhdhbeaa
open Go.RowKit

/-- Whether an outlet is a bed to which water comes by an ID. -/
noncomputable def belQ (ws : Wk) (id : Int) (p : Pl) : Bool := decide (p.o.into < 0) && decide (id ∈ byIdS ws (allP ws) p.o.id)
theorem belQ_eq {ws : Wk} (hw : WOk ws) {i n : Nat} {pi p : Pl} (hpi : (allP ws)[i]? = some pi) (hp : (allP ws)[n]? = some p) : belQ ws pi.o.id p = belowP ws i n := by
  rw [belowP_eq (outs_get hp).1]
  unfold belQ
  rw [byId_all hw hp, Bool.and_comm]
  congr 1
  refine decide_eq_decide.2 ⟨fun h => ?_, fun h => ?_⟩
  · obtain ⟨k, hk, he⟩ := List.mem_map.1 h
    have hkl := (pathOf_is hw (lt_total hp)).mem k hk
    obtain ⟨q, hq⟩ := at_total hkl
    rw [idAt_eq (outs_get hq).1] at he
    have : k = i := by
      rcases Nat.lt_trichotomy k i with h1 | h1 | h1
      · exact absurd he (hw.one k i q pi hq hpi h1).1
      · exact h1
      · exact absurd he.symm (hw.one i k pi q hpi hq h1).1
    rwa [← this]
  · exact List.mem_map.2 ⟨i, h, idAt_eq (outs_get hpi).1⟩
theorem belQ_ids {ws : Wk} (hw : WOk ws) {i : Nat} {pi : Pl} (hpi : (allP ws)[i]? = some pi) : ∀ n, n ≤ total ws → idsQ (belQ ws pi.o.id) ((allP ws).take n) = belL ws i n
  | 0, _ => rfl
  | n + 1, hn => by
    obtain ⟨p, hp⟩ := at_total (ws := ws) (n := n) (by omega)
    rw [take_snoc_get hp, belL_succ, ← belQ_ids hw hpi n (by omega), ← belQ_eq hw hpi hp]
    cases h : belQ ws pi.o.id p
    · rw [idsQ_drop _ h]; simp
    · rw [idsQ_keep _ h, idAt_eq (outs_get hp).1]; simp
theorem belQ_all {ws : Wk} (hw : WOk ws) {i : Nat} {pi : Pl} (hpi : (allP ws)[i]? = some pi) : idsQ (belQ ws pi.o.id) (allP ws) = belL ws i (total ws) := by
  have := belQ_ids hw hpi (total ws) (Nat.le_refl _)
  rwa [List.take_of_length_le (by rw [allP_len]; exact Nat.le_refl _)] at this

set_option maxHeartbeats 8000000 in
set_option maxRecDepth 1000000 in
theorem below1_any (bm bi bp base : Nat) (ws : Wk) (id : Int) (n : Nat) (p : Pl) (w : World) (hw : WOk ws) (hp : (allP ws)[n]? = some p) (hm : w.cell? ⟨bm, 0, none⟩ = some (.map (some bp))) (hi : w.cell? ⟨bi, 0, none⟩ = some (.int .i64 id)) (hlm : bm < w.heap.size) (hli : bi < w.heap.size) (hlp : bp < w.heap.size) (hpm : PathsM ws bp base (total ws) (allP ws) w) :
    Calls Try.prog 111 #[.agg #[.int .i64 p.at_, .int .i64 p.c, .int .i64 p.n], ouV p.o, .pointer (some ⟨bm, 0, none⟩), .pointer (some ⟨bi, 0, none⟩)] w fun e w' => e = .returned (.bool (belQ ws id p)) ∧ Below w.heap.size w w' := by
  obtain ⟨u, hu, hrun⟩ := hpm.look p.o.id (id_wf hw hp)
  have HL : Hid ((byIdS ws (allP ws) p.o.id).length ≤ 60) := Lib.hid (by have := byIdS_len hw (total ws) p.o.id; rwa [List.take_of_length_le (by rw [allP_len]; exact Nat.le_refl _)] at this)
  have HQ : Hid (belQ ws id p = (decide (p.o.into < 0) && decide (id ∈ byIdS ws (allP ws) p.o.id))) := Lib.hid rfl
  obtain ⟨l, hl⟩ : ∃ l, byIdS ws (allP ws) p.o.id = l := ⟨_, rfl⟩
  rw [hl] at hu HL HQ
  obtain ⟨r, hr⟩ : ∃ r, belQ ws id p = r := ⟨_, rfl⟩
  rw [hr] at HQ ⊢
  obtain ⟨xa, xc, xn, x⟩ := p
  simp only at hrun HQ ⊢
  clear hp hpm hl hr hw
  obtain ⟨W2, hW2⟩ : ∃ W2, (w.alloc (.cells #[.int .i64 xa, .int .i64 xc, .int .i64 xn] 133)).alloc (.cells #[.int .i64 x.id, .int .i64 x.into, .slice x.pa x.ps.length x.pc, .int .i64 x.k0, .int .i64 x.k1, .int .i64 x.s0, .int .i64 x.s1] 42) = W2 := ⟨_, rfl⟩
  have bW2 : Below w.heap.size w W2 := by rw [← hW2]; exact ((Below.refl _ _).alloc (Nat.le_refl _) _).alloc (by simp) _
  have HB2 := Lib.hid bW2
  have RU := Lib.hid ((hu.below bW2).rr EI (by have := HL.out; show l.length ≤ 1000000000000000; omega))
  have PX : Hid (PlC w.heap.size ⟨xa, xc, xn, x⟩ W2 ∧ OuC (w.heap.size + 1) x W2) := Lib.hid (by rw [← hW2]; exact ⟨⟨by simp [go_sem], by simp [go_sem], by simp [go_sem]⟩, ⟨by simp [go_sem], by simp [go_sem], by simp [go_sem], by simp [go_sem], by simp [go_sem], by simp [go_sem], by simp [go_sem]⟩⟩)
  have xm := (bW2.cell (p := ⟨bm, 0, none⟩) hlm).trans hm
  have xi := (bW2.cell (p := ⟨bi, 0, none⟩) hli).trans hi
  have hrun2 := hrun W2 (bW2.block _ hlp)
  have HWW := Lib.hid hW2
  have x0 := PX.out.2.id
  have x1 := PX.out.2.into
  clear hW2 bW2 hrun hu hm hi
  go_enter Try.func111, Try.ntmps111
  go_upto_region 1 with fail
  rw [HWW.out]
  by_cases hin : x.into < 0
  · go_wp2_with fail
    refine (containsI_any u l id W2 RU.out (by have := HL.out; omega)).mono ?_
    rintro e w3 ⟨rfl, b3⟩
    have HR : Hid (decide (id ∈ l) = r) := Lib.hid (by rw [HQ.out, decide_eq_true hin, Bool.true_and])
    rw [HR.out]
    have HB3 := Lib.hid (HB2.out.trans (b3.mono HB2.out.size))
    clear b3
    go_wp2_with fail
    go_ret
    exact ⟨rfl, HB3.out⟩
  · have HR : Hid (false = r) := Lib.hid (by rw [HQ.out, decide_eq_false hin, Bool.false_and])
    go_wp2_with fail
    go_ret
    exact ⟨ret_bool HR.out, HB2.out⟩

/-- Works and an ID in the function's first two blocks. -/
structure BeS (w : World) (v : Value) (id : Int) (W : World) : Prop where
  wk : W.cell? ⟨w.heap.size, 0, none⟩ = some v
  id : W.cell? ⟨w.heap.size + 1, 0, none⟩ = some (.int .i64 id)
  lt : w.heap.size + 1 < W.heap.size
  bel : Below w.heap.size w W
theorem BeS.below {w W W' : World} {v : Value} {id : Int} (h : BeS w v id W) (hb : Below W.heap.size W W') : BeS w v id W' :=
  ⟨(hb.cell (p := ⟨w.heap.size, 0, none⟩) (by have := h.lt; show w.heap.size < _; omega)).trans h.wk, (hb.cell (p := ⟨w.heap.size + 1, 0, none⟩) h.lt).trans h.id, Nat.lt_of_lt_of_le h.lt hb.size, h.bel.trans (hb.mono h.bel.size)⟩
set_option maxHeartbeats 8000000 in
set_option maxRecDepth 1000000 in
theorem Below_any (v : Value) (ws : Wk) (id d : Int) (M : List Int) (w : World) (h : RK w.heap.size v ws w) (ht : total ws ≤ 100000) (hc : BelowR ws id d M) :
    Calls Try.prog 52 #[.agg #[v], .int .i64 id] w (PathPost d M w) := by
  obtain ⟨A, c, rfl, -⟩ := (show ∃ A c, v = .slice A ws.length c ∧ True by obtain ⟨A, c, e, _⟩ := h; exact ⟨A, c, e, trivial⟩)
  obtain ⟨i, hk, hc⟩ := hc
  have C1 := Lib.hid fun W (hb : Below w.heap.size w W) => checkOutlet_any (.slice A ws.length c) ws id i d W (h.up hb.size hb) ht hk
  have C2 := Lib.hid fun (hw : WOk ws) W (hb : Below w.heap.size w W) => paths_any A c ws W (h.up hb.size hb) hw
  have S0 : Hid (BeS w (.slice A ws.length c) id ((w.alloc (.cells #[.slice A ws.length c] 24)).alloc (.cells #[.int .i64 id] 3))) := Lib.hid ⟨by simp [go_sem], by simp [go_sem], by simp, ((Below.refl _ _).alloc (Nat.le_refl _) _).alloc (by simp) _⟩
  have H := Lib.hid h
  have HK := Lib.hid hk
  have HC := Lib.hid hc
  clear h hk hc
  go_enter Try.func52, Try.ntmps52
  go_wp2_with fail
  refine (C1.out _ S0.out.bel).mono ?_
  rintro e w1 ⟨rfl, b1⟩
  have S := Lib.hid (S0.out.below b1)
  clear b1
  by_cases h0 : d = 0
  rotate_left
  · have hdb : (d != 0) = true := by rw [bne_iff_ne]; exact h0
    have HM : Hid (M = []) := Lib.hid (by rcases HC.out with ⟨_, h⟩ | ⟨h, _⟩; exact h; exact absurd h h0)
    go_wp2_with fail
    refine bodyPost_ret (results_tmp2 rfl _ _ _) rfl ?_
    exact ⟨_, rfl, by rw [HM.out]; exact OwnG.nil _ _ _ _ _, S.out.bel⟩
  subst h0
  obtain ⟨n, p, rfl, hf, hp⟩ := HK.out.at_
  have hw := HK.out.chk.1
  have HW := Lib.hid hw
  obtain rfl := fst_id hf hp
  have HP := Lib.hid hp
  have HM : Hid (M = idsQ (belQ ws p.o.id) (allP ws)) := Lib.hid (by
    rcases HC.out with ⟨h, _⟩ | ⟨_, k, hk, rfl⟩
    · exact absurd rfl h
    · obtain rfl : n = k := by omega
      rw [belQ_all hw hp])
  have x0 := S.out.wk
  clear hw hf hp HC
  go_wp2_with fail
  refine (C2.out HW.out _ S.out.bel).mono ?_
  rintro e w2 ⟨rfl, hpm, b2⟩
  have S2 := Lib.hid (S.out.below b2)
  have HPM := Lib.hid hpm
  obtain ⟨W3, hW3⟩ : ∃ W3, w2.alloc (.cells #[.map (some (w1.heap.size + 1))] 156) = W3 := ⟨_, rfl⟩
  have b3 : Below w2.heap.size w2 W3 := by rw [← hW3]; exact (Below.refl _ _).alloc (Nat.le_refl _) _
  have HB3 := Lib.hid b3
  have S3 := Lib.hid (S2.out.below b3)
  have HM3 : Hid (W3.cell? ⟨w2.heap.size, 0, none⟩ = some (.map (some (w1.heap.size + 1))) ∧ w2.heap.size < W3.heap.size) := Lib.hid (by rw [← hW3]; exact ⟨by simp [go_sem], by simp⟩)
  have x0 : (w2.alloc (.cells #[.map (some (w1.heap.size + 1))] 156)).cell? ⟨w.heap.size, 0, none⟩ = some (.slice A ws.length c) := by rw [hW3]; exact S3.out.wk
  have HW3 := Lib.hid hW3
  have HLP : Hid (w1.heap.size + 1 < w2.heap.size) := Lib.hid (by
    obtain ⟨D, ⟨es, cl, k1, _⟩, _⟩ := HPM.out
    exact (Array.getElem?_eq_some_iff.1 k1).1)
  clear b2 hpm b3 hW3
  go_wp2_with fail
  rw [HW3.out]
  refine (amongBelow_any A c ws (belQ ws p.o.id) w2.heap.size (w.heap.size + 1) W3 (H.out.up S3.out.bel.size S3.out.bel) ht (by have := HW.out.len; omega) (fun m q W hq hb => ?hcl)).mono ?_
  case hcl =>
    have hs := hb.size
    have h3 := HM3.out.2
    have h4 := HB3.out.size
    have h5 := HLP.out
    have pm := HPM.out.grown (GrownL.of_below (bs := []) (HB3.out.trans (hb.mono h4))) (by simp) (by simp)
    exact below1_any w2.heap.size (w.heap.size + 1) (w1.heap.size + 1) (w1.heap.size + 7) ws p.o.id m q W HW.out hq ((hb.cell (p := ⟨w2.heap.size, 0, none⟩) h3).trans HM3.out.1) ((hb.cell (p := ⟨w.heap.size + 1, 0, none⟩) S3.out.lt).trans S3.out.id) (by omega) (by have := S3.out.lt; omega) (by omega) pm
  rintro e w4 ⟨u, rfl, hu, b4⟩
  have S4 := Lib.hid (S3.out.below b4)
  have HU := Lib.hid hu
  clear b4 hu x0
  go_wp2_with fail
  refine bodyPost_ret (results_tmp2 rfl _ _ _) rfl ?_
  exact ⟨u, rfl, by rw [HM.out]; exact HU.out.low (by have := S3.out.bel.size; omega), S4.out.bel⟩
end Go.Proofs.Ytmmbmnihhdhbeaa

/- The law CarrierChecks, by its walk. -/
namespace Go.Proofs.Ytmmbmnihhdhbeaa
open Go.RowKit

/-- A list and an error in a block of their own. -/
structure In2 (g : Nat) (u : Value) (d : Int) (W : World) : Prop where
  l : W.cell? ⟨g, 0, none⟩ = some u
  e : W.cell? ⟨g, 1, none⟩ = some (.int .i64 d)
theorem In2.below {g : Nat} {u : Value} {d : Int} {W W' : World} (h : In2 g u d W) (hb : Below W.heap.size W W') : In2 g u d W' :=
  have hl := World.block_lt_of_cell? _ _ h.l
  ⟨(hb.cell (p := ⟨g, 0, none⟩) hl).trans h.l, (hb.cell (p := ⟨g, 1, none⟩) hl).trans h.e⟩
theorem In2.new (u : Value) (d : Int) (w : World) : In2 w.heap.size u d (w.alloc (.cells #[u, .int .i64 d] 86)) := ⟨by simp [go_sem], by simp [go_sem]⟩
theorem own_list {base : Nat} {u : Value} {l : List Int} {W : World} (h : OwnG encI 1 3 base u l W) : ∃ A c, u = .slice A l.length c := by obtain ⟨A, c, e, -⟩ := h.form; exact ⟨A, c, e⟩

set_option maxHeartbeats 16000000 in
set_option maxRecDepth 1000000 in
theorem checks_law (A : Option Addr) (c : Nat) (ws : Wk) (id : Int) (w : World) (h : RK w.heap.size (.slice A ws.length c) ws w) :
    Calls Try.prog 9 #[.agg #[.slice A ws.length c], .int .i64 id] w fun e w' => e = .returned (.bool true) ∧ Below w.heap.size w w' := by
  have H := Lib.hid h
  have S0 := Lib.hid (Wd.new (w := w) (v := .slice A ws.length c) 24)
  clear h
  go_enter Try.func9, Try.ntmps9
  go_wp2_with fail
  refine (few_any A ws.length c ws _ (H.out.up S0.out.siz S0.out.bel)).mono ?_
  rintro e w1 ⟨b, rfl, hfew, b1⟩
  have S := Lib.hid (S0.out.below b1)
  have HFEW := Lib.hid hfew
  clear hfew b1 S0
  cases b
  · go_wp2_with fail
    refine (sanity_any _).mono ?_
    rintro e w2 ⟨rfl, b2⟩
    have S2 := Lib.hid (S.out.below b2)
    clear b2
    go_wp2_with fail
    go_ret
    exact ⟨rfl, S2.out.bel⟩
  have HT : Hid (total ws ≤ 90 ∧ ws.length ≤ 30) := Lib.hid (by have := HFEW.out (by trivial); have h1 := this.1; have h2 := this.2.1; omega)
  have ht : total ws ≤ 100000 := by have := HT.out; omega
  clear HFEW
  obtain ⟨d, hd⟩ := CheckIs.exists_ ws
  obtain ⟨dp, Mp, hp⟩ := PathR.exists_ ws id
  obtain ⟨db, Mb, hb⟩ := BelowR.exists_ ws id
  have HD := Lib.hid hd
  have HP := Lib.hid hp
  have HB := Lib.hid hb
  have hok : d = 0 → WOk ws := fun e => by subst e; exact hd.ok
  obtain ⟨L1, hL1⟩ : ∃ L, okL d (headsL ws) = L := ⟨_, rfl⟩
  obtain ⟨L2, hL2⟩ : ∃ L, okL d (idsL (fun _ => true) (outs ws)) = L := ⟨_, rfl⟩
  obtain ⟨L3, hL3⟩ : ∃ L, okL d (idsL (fun o => decide (o.into < 0)) (outs ws)) = L := ⟨_, rfl⟩
  have N1 : Hid (L1.length ≤ 100) := Lib.hid (by
    rw [← hL1]; unfold okL; split
    · have := headsL_len (hok (by assumption)); omega
    · simp)
  have N2 : Hid (L2.length ≤ 100) := Lib.hid (by
    rw [← hL2]; unfold okL; split
    · have := idsL_len (fun _ => true) (outs ws); rw [outs_len] at this; have := HT.out; omega
    · simp)
  have N3 : Hid (L3.length ≤ 100) := Lib.hid (by
    rw [← hL3]; unfold okL; split
    · have := idsL_len (fun o => decide (o.into < 0)) (outs ws); rw [outs_len] at this; have := HT.out; omega
    · simp)
  have N4 : Hid (Mp.length ≤ 100) := Lib.hid (by
    obtain ⟨i, hk, ⟨_, rfl⟩ | ⟨rfl, k, L, rfl, hL, rfl⟩⟩ := hp
    · simp
    · have h1 := hL.len hk.chk.1; have h2 := hL.lt; have := HT.out; rw [List.length_map]; omega)
  have N5 : Hid (Mb.length ≤ 100) := Lib.hid (by
    obtain ⟨i, hk, ⟨_, rfl⟩ | ⟨rfl, k, rfl, rfl⟩⟩ := hb
    · simp
    · have h1 := belL_len ws k (total ws); have := HT.out; omega)
  have C1 := Lib.hid fun W (S : Wd w (.slice A ws.length c) W) => Heads_any (.slice A ws.length c) ws d W (H.out.up S.siz S.bel) ht HD.out
  have C2 := Lib.hid fun W (S : Wd w (.slice A ws.length c) W) => rHeads_any (.slice A ws.length c) ws d W (H.out.up S.siz S.bel) ht HD.out
  have C3 := Lib.hid fun W (S : Wd w (.slice A ws.length c) W) => Outlets_any (.slice A ws.length c) ws d W (H.out.up S.siz S.bel) ht HD.out
  have C4 := Lib.hid fun W (S : Wd w (.slice A ws.length c) W) => rOutlets_any (.slice A ws.length c) ws d W (H.out.up S.siz S.bel) ht HD.out
  have C5 := Lib.hid fun W (S : Wd w (.slice A ws.length c) W) => Beds_any (.slice A ws.length c) ws d W (H.out.up S.siz S.bel) ht HD.out
  have C6 := Lib.hid fun W (S : Wd w (.slice A ws.length c) W) => rBeds_any (.slice A ws.length c) ws d W (H.out.up S.siz S.bel) ht HD.out
  have C7 := Lib.hid fun W (S : Wd w (.slice A ws.length c) W) => Path_any (.slice A ws.length c) ws id dp Mp W (H.out.up S.siz S.bel) ht HP.out
  have C8 := Lib.hid fun W (S : Wd w (.slice A ws.length c) W) => rPath_any (.slice A ws.length c) ws id dp Mp W (H.out.up S.siz S.bel) ht HP.out
  have C9 := Lib.hid fun W (S : Wd w (.slice A ws.length c) W) => Below_any (.slice A ws.length c) ws id db Mb W (H.out.up S.siz S.bel) ht HB.out
  have C10 := Lib.hid fun W (S : Wd w (.slice A ws.length c) W) => rBelow_any (.slice A ws.length c) ws id db Mb W (H.out.up S.siz S.bel) ht HB.out
  have D1 := Lib.hid fun W (hb : Below w.heap.size w W) => check_any (.slice A ws.length c) ws d W (H.out.up hb.size hb) (by omega) HD.out
  have D2 := Lib.hid fun W (hb : Below w.heap.size w W) => rcheck_any A ws.length c ws d W (H.out.up hb.size hb) ht HD.out
  rw [hL1] at C1 C2
  rw [hL2] at C3 C4
  rw [hL3] at C5 C6
  clear hd hp hb hok hL1 hL2 hL3
  have x0 := S.out.c
  go_wp2_with fail
  refine (C1.out _ S.out).mono ?_
  rintro e wa0 ⟨u0, rfl, o0, bb⟩
  replace S := Lib.hid (S.out.below bb)
  obtain ⟨U0, uc0, rfl⟩ := own_list o0
  have U_0 := Lib.hid o0
  clear bb x0 o0
  have x0 := S.out.c
  go_wp2_with fail
  refine (C2.out _ S.out).mono ?_
  rintro e wb0 ⟨v0, rfl, o0, bb⟩
  replace S := Lib.hid (S.out.below bb)
  replace U_0 := Lib.hid (U_0.out.below bb)
  obtain ⟨V0, vc0, rfl⟩ := own_list o0
  have V_0 := Lib.hid o0
  clear bb x0 o0
  have I_0 := Lib.hid (In2.new (.slice V0 L1.length vc0) d wb0)
  have bb := Lib.hid ((Below.refl wb0.heap.size wb0).alloc (Nat.le_refl _) (.cells #[.slice V0 L1.length vc0, .int .i64 d] 86))
  replace S := Lib.hid (S.out.below bb.out)
  replace U_0 := Lib.hid (U_0.out.below bb.out)
  replace V_0 := Lib.hid (V_0.out.below bb.out)
  clear bb
  obtain ⟨wc0, hwc0⟩ : ∃ W, wb0.alloc (.cells #[.slice V0 L1.length vc0, .int .i64 d] 86) = W := ⟨_, rfl⟩
  have HW0 := Lib.hid hwc0
  rw [hwc0] at S U_0 V_0 I_0
  have x0 : (wb0.alloc (.cells #[.slice V0 L1.length vc0, .int .i64 d] 86)).cell? ⟨w.heap.size, 0, none⟩ = some (.slice A ws.length c) := by rw [hwc0]; exact S.out.c
  clear hwc0
  go_wp2_with fail
  rw [HW0.out]
  refine (C3.out _ S.out).mono ?_
  rintro e wa1 ⟨u1, rfl, o1, bb⟩
  replace S := Lib.hid (S.out.below bb)
  replace U_0 := Lib.hid (U_0.out.below bb)
  replace V_0 := Lib.hid (V_0.out.below bb)
  replace I_0 := Lib.hid (I_0.out.below bb)
  obtain ⟨U1, uc1, rfl⟩ := own_list o1
  have U_1 := Lib.hid o1
  clear bb x0 o1 HW0
  have x0 := S.out.c
  go_wp2_with fail
  refine (C4.out _ S.out).mono ?_
  rintro e wb1 ⟨v1, rfl, o1, bb⟩
  replace S := Lib.hid (S.out.below bb)
  replace U_0 := Lib.hid (U_0.out.below bb)
  replace V_0 := Lib.hid (V_0.out.below bb)
  replace I_0 := Lib.hid (I_0.out.below bb)
  replace U_1 := Lib.hid (U_1.out.below bb)
  obtain ⟨V1, vc1, rfl⟩ := own_list o1
  have V_1 := Lib.hid o1
  clear bb x0 o1
  have I_1 := Lib.hid (In2.new (.slice V1 L2.length vc1) d wb1)
  have bb := Lib.hid ((Below.refl wb1.heap.size wb1).alloc (Nat.le_refl _) (.cells #[.slice V1 L2.length vc1, .int .i64 d] 86))
  replace S := Lib.hid (S.out.below bb.out)
  replace U_0 := Lib.hid (U_0.out.below bb.out)
  replace V_0 := Lib.hid (V_0.out.below bb.out)
  replace I_0 := Lib.hid (I_0.out.below bb.out)
  replace U_1 := Lib.hid (U_1.out.below bb.out)
  replace V_1 := Lib.hid (V_1.out.below bb.out)
  clear bb
  obtain ⟨wc1, hwc1⟩ : ∃ W, wb1.alloc (.cells #[.slice V1 L2.length vc1, .int .i64 d] 86) = W := ⟨_, rfl⟩
  have HW1 := Lib.hid hwc1
  rw [hwc1] at S U_0 V_0 I_0 U_1 V_1 I_1
  have x0 : (wb1.alloc (.cells #[.slice V1 L2.length vc1, .int .i64 d] 86)).cell? ⟨w.heap.size, 0, none⟩ = some (.slice A ws.length c) := by rw [hwc1]; exact S.out.c
  clear hwc1
  go_wp2_with fail
  rw [HW1.out]
  refine (C5.out _ S.out).mono ?_
  rintro e wa2 ⟨u2, rfl, o2, bb⟩
  replace S := Lib.hid (S.out.below bb)
  replace U_0 := Lib.hid (U_0.out.below bb)
  replace V_0 := Lib.hid (V_0.out.below bb)
  replace I_0 := Lib.hid (I_0.out.below bb)
  replace U_1 := Lib.hid (U_1.out.below bb)
  replace V_1 := Lib.hid (V_1.out.below bb)
  replace I_1 := Lib.hid (I_1.out.below bb)
  obtain ⟨U2, uc2, rfl⟩ := own_list o2
  have U_2 := Lib.hid o2
  clear bb x0 o2 HW1
  have x0 := S.out.c
  go_wp2_with fail
  refine (C6.out _ S.out).mono ?_
  rintro e wb2 ⟨v2, rfl, o2, bb⟩
  replace S := Lib.hid (S.out.below bb)
  replace U_0 := Lib.hid (U_0.out.below bb)
  replace V_0 := Lib.hid (V_0.out.below bb)
  replace I_0 := Lib.hid (I_0.out.below bb)
  replace U_1 := Lib.hid (U_1.out.below bb)
  replace V_1 := Lib.hid (V_1.out.below bb)
  replace I_1 := Lib.hid (I_1.out.below bb)
  replace U_2 := Lib.hid (U_2.out.below bb)
  obtain ⟨V2, vc2, rfl⟩ := own_list o2
  have V_2 := Lib.hid o2
  clear bb x0 o2
  have I_2 := Lib.hid (In2.new (.slice V2 L3.length vc2) d wb2)
  have bb := Lib.hid ((Below.refl wb2.heap.size wb2).alloc (Nat.le_refl _) (.cells #[.slice V2 L3.length vc2, .int .i64 d] 86))
  replace S := Lib.hid (S.out.below bb.out)
  replace U_0 := Lib.hid (U_0.out.below bb.out)
  replace V_0 := Lib.hid (V_0.out.below bb.out)
  replace I_0 := Lib.hid (I_0.out.below bb.out)
  replace U_1 := Lib.hid (U_1.out.below bb.out)
  replace V_1 := Lib.hid (V_1.out.below bb.out)
  replace I_1 := Lib.hid (I_1.out.below bb.out)
  replace U_2 := Lib.hid (U_2.out.below bb.out)
  replace V_2 := Lib.hid (V_2.out.below bb.out)
  clear bb
  obtain ⟨wc2, hwc2⟩ : ∃ W, wb2.alloc (.cells #[.slice V2 L3.length vc2, .int .i64 d] 86) = W := ⟨_, rfl⟩
  have HW2 := Lib.hid hwc2
  rw [hwc2] at S U_0 V_0 I_0 U_1 V_1 I_1 U_2 V_2 I_2
  have x0 : (wb2.alloc (.cells #[.slice V2 L3.length vc2, .int .i64 d] 86)).cell? ⟨w.heap.size, 0, none⟩ = some (.slice A ws.length c) := by rw [hwc2]; exact S.out.c
  clear hwc2
  go_wp2_with fail
  rw [HW2.out]
  refine (C7.out _ S.out).mono ?_
  rintro e wa3 ⟨u3, rfl, o3, bb⟩
  replace S := Lib.hid (S.out.below bb)
  replace U_0 := Lib.hid (U_0.out.below bb)
  replace V_0 := Lib.hid (V_0.out.below bb)
  replace I_0 := Lib.hid (I_0.out.below bb)
  replace U_1 := Lib.hid (U_1.out.below bb)
  replace V_1 := Lib.hid (V_1.out.below bb)
  replace I_1 := Lib.hid (I_1.out.below bb)
  replace U_2 := Lib.hid (U_2.out.below bb)
  replace V_2 := Lib.hid (V_2.out.below bb)
  replace I_2 := Lib.hid (I_2.out.below bb)
  obtain ⟨U3, uc3, rfl⟩ := own_list o3
  have U_3 := Lib.hid o3
  clear bb x0 o3 HW2
  have x0 := S.out.c
  go_wp2_with fail
  refine (C8.out _ S.out).mono ?_
  rintro e wb3 ⟨v3, rfl, o3, bb⟩
  replace S := Lib.hid (S.out.below bb)
  replace U_0 := Lib.hid (U_0.out.below bb)
  replace V_0 := Lib.hid (V_0.out.below bb)
  replace I_0 := Lib.hid (I_0.out.below bb)
  replace U_1 := Lib.hid (U_1.out.below bb)
  replace V_1 := Lib.hid (V_1.out.below bb)
  replace I_1 := Lib.hid (I_1.out.below bb)
  replace U_2 := Lib.hid (U_2.out.below bb)
  replace V_2 := Lib.hid (V_2.out.below bb)
  replace I_2 := Lib.hid (I_2.out.below bb)
  replace U_3 := Lib.hid (U_3.out.below bb)
  obtain ⟨V3, vc3, rfl⟩ := own_list o3
  have V_3 := Lib.hid o3
  clear bb x0 o3
  have I_3 := Lib.hid (In2.new (.slice V3 Mp.length vc3) dp wb3)
  have bb := Lib.hid ((Below.refl wb3.heap.size wb3).alloc (Nat.le_refl _) (.cells #[.slice V3 Mp.length vc3, .int .i64 dp] 86))
  replace S := Lib.hid (S.out.below bb.out)
  replace U_0 := Lib.hid (U_0.out.below bb.out)
  replace V_0 := Lib.hid (V_0.out.below bb.out)
  replace I_0 := Lib.hid (I_0.out.below bb.out)
  replace U_1 := Lib.hid (U_1.out.below bb.out)
  replace V_1 := Lib.hid (V_1.out.below bb.out)
  replace I_1 := Lib.hid (I_1.out.below bb.out)
  replace U_2 := Lib.hid (U_2.out.below bb.out)
  replace V_2 := Lib.hid (V_2.out.below bb.out)
  replace I_2 := Lib.hid (I_2.out.below bb.out)
  replace U_3 := Lib.hid (U_3.out.below bb.out)
  replace V_3 := Lib.hid (V_3.out.below bb.out)
  clear bb
  obtain ⟨wc3, hwc3⟩ : ∃ W, wb3.alloc (.cells #[.slice V3 Mp.length vc3, .int .i64 dp] 86) = W := ⟨_, rfl⟩
  have HW3 := Lib.hid hwc3
  rw [hwc3] at S U_0 V_0 I_0 U_1 V_1 I_1 U_2 V_2 I_2 U_3 V_3 I_3
  have x0 : (wb3.alloc (.cells #[.slice V3 Mp.length vc3, .int .i64 dp] 86)).cell? ⟨w.heap.size, 0, none⟩ = some (.slice A ws.length c) := by rw [hwc3]; exact S.out.c
  clear hwc3
  go_wp2_with fail
  rw [HW3.out]
  refine (C9.out _ S.out).mono ?_
  rintro e wa4 ⟨u4, rfl, o4, bb⟩
  replace S := Lib.hid (S.out.below bb)
  replace U_0 := Lib.hid (U_0.out.below bb)
  replace V_0 := Lib.hid (V_0.out.below bb)
  replace I_0 := Lib.hid (I_0.out.below bb)
  replace U_1 := Lib.hid (U_1.out.below bb)
  replace V_1 := Lib.hid (V_1.out.below bb)
  replace I_1 := Lib.hid (I_1.out.below bb)
  replace U_2 := Lib.hid (U_2.out.below bb)
  replace V_2 := Lib.hid (V_2.out.below bb)
  replace I_2 := Lib.hid (I_2.out.below bb)
  replace U_3 := Lib.hid (U_3.out.below bb)
  replace V_3 := Lib.hid (V_3.out.below bb)
  replace I_3 := Lib.hid (I_3.out.below bb)
  obtain ⟨U4, uc4, rfl⟩ := own_list o4
  have U_4 := Lib.hid o4
  clear bb x0 o4 HW3
  have x0 := S.out.c
  go_wp2_with fail
  refine (C10.out _ S.out).mono ?_
  rintro e wb4 ⟨v4, rfl, o4, bb⟩
  replace S := Lib.hid (S.out.below bb)
  replace U_0 := Lib.hid (U_0.out.below bb)
  replace V_0 := Lib.hid (V_0.out.below bb)
  replace I_0 := Lib.hid (I_0.out.below bb)
  replace U_1 := Lib.hid (U_1.out.below bb)
  replace V_1 := Lib.hid (V_1.out.below bb)
  replace I_1 := Lib.hid (I_1.out.below bb)
  replace U_2 := Lib.hid (U_2.out.below bb)
  replace V_2 := Lib.hid (V_2.out.below bb)
  replace I_2 := Lib.hid (I_2.out.below bb)
  replace U_3 := Lib.hid (U_3.out.below bb)
  replace V_3 := Lib.hid (V_3.out.below bb)
  replace I_3 := Lib.hid (I_3.out.below bb)
  replace U_4 := Lib.hid (U_4.out.below bb)
  obtain ⟨V4, vc4, rfl⟩ := own_list o4
  have V_4 := Lib.hid o4
  clear bb x0 o4
  have I_4 := Lib.hid (In2.new (.slice V4 Mb.length vc4) db wb4)
  have bb := Lib.hid ((Below.refl wb4.heap.size wb4).alloc (Nat.le_refl _) (.cells #[.slice V4 Mb.length vc4, .int .i64 db] 86))
  replace S := Lib.hid (S.out.below bb.out)
  replace U_0 := Lib.hid (U_0.out.below bb.out)
  replace V_0 := Lib.hid (V_0.out.below bb.out)
  replace I_0 := Lib.hid (I_0.out.below bb.out)
  replace U_1 := Lib.hid (U_1.out.below bb.out)
  replace V_1 := Lib.hid (V_1.out.below bb.out)
  replace I_1 := Lib.hid (I_1.out.below bb.out)
  replace U_2 := Lib.hid (U_2.out.below bb.out)
  replace V_2 := Lib.hid (V_2.out.below bb.out)
  replace I_2 := Lib.hid (I_2.out.below bb.out)
  replace U_3 := Lib.hid (U_3.out.below bb.out)
  replace V_3 := Lib.hid (V_3.out.below bb.out)
  replace I_3 := Lib.hid (I_3.out.below bb.out)
  replace U_4 := Lib.hid (U_4.out.below bb.out)
  replace V_4 := Lib.hid (V_4.out.below bb.out)
  clear bb
  obtain ⟨wc4, hwc4⟩ : ∃ W, wb4.alloc (.cells #[.slice V4 Mb.length vc4, .int .i64 db] 86) = W := ⟨_, rfl⟩
  have HW4 := Lib.hid hwc4
  rw [hwc4] at S U_0 V_0 I_0 U_1 V_1 I_1 U_2 V_2 I_2 U_3 V_3 I_3 U_4 V_4 I_4
  have x0 : (wb4.alloc (.cells #[.slice V4 Mb.length vc4, .int .i64 db] 86)).cell? ⟨w.heap.size, 0, none⟩ = some (.slice A ws.length c) := by rw [hwc4]; exact S.out.c
  clear hwc4
  go_upto_region 13 with fail
  rw [HW4.out]
  clear x0 HW4
  have y00 := I_0.out.l
  have y01 := I_0.out.e
  have y10 := I_1.out.l
  have y11 := I_1.out.e
  have y20 := I_2.out.l
  have y21 := I_2.out.e
  go_wp2_with fail
  refine (sameInts_any (.slice U0 L1.length uc0) (.slice V0 L1.length vc0) L1 _ (U_0.out.rr EI (by have := N1.out; show L1.length ≤ 1000000000000000; omega)) (V_0.out.rr EI (by have := N1.out; show L1.length ≤ 1000000000000000; omega)) (by have := N1.out; omega)).mono ?_
  rintro e wd0 ⟨rfl, bb⟩
  replace S := Lib.hid (S.out.below bb)
  replace U_0 := Lib.hid (U_0.out.below bb)
  replace V_0 := Lib.hid (V_0.out.below bb)
  replace I_0 := Lib.hid (I_0.out.below bb)
  replace U_1 := Lib.hid (U_1.out.below bb)
  replace V_1 := Lib.hid (V_1.out.below bb)
  replace I_1 := Lib.hid (I_1.out.below bb)
  replace U_2 := Lib.hid (U_2.out.below bb)
  replace V_2 := Lib.hid (V_2.out.below bb)
  replace I_2 := Lib.hid (I_2.out.below bb)
  replace U_3 := Lib.hid (U_3.out.below bb)
  replace V_3 := Lib.hid (V_3.out.below bb)
  replace I_3 := Lib.hid (I_3.out.below bb)
  replace U_4 := Lib.hid (U_4.out.below bb)
  replace V_4 := Lib.hid (V_4.out.below bb)
  replace I_4 := Lib.hid (I_4.out.below bb)
  clear bb y00 y01 y10 y11 y20 y21
  have y00 := I_0.out.l
  have y01 := I_0.out.e
  have y10 := I_1.out.l
  have y11 := I_1.out.e
  have y20 := I_2.out.l
  have y21 := I_2.out.e
  go_wp2_with fail
  refine (sameInts_any (.slice U1 L2.length uc1) (.slice V1 L2.length vc1) L2 _ (U_1.out.rr EI (by have := N2.out; show L2.length ≤ 1000000000000000; omega)) (V_1.out.rr EI (by have := N2.out; show L2.length ≤ 1000000000000000; omega)) (by have := N2.out; omega)).mono ?_
  rintro e wd1 ⟨rfl, bb⟩
  replace S := Lib.hid (S.out.below bb)
  replace U_0 := Lib.hid (U_0.out.below bb)
  replace V_0 := Lib.hid (V_0.out.below bb)
  replace I_0 := Lib.hid (I_0.out.below bb)
  replace U_1 := Lib.hid (U_1.out.below bb)
  replace V_1 := Lib.hid (V_1.out.below bb)
  replace I_1 := Lib.hid (I_1.out.below bb)
  replace U_2 := Lib.hid (U_2.out.below bb)
  replace V_2 := Lib.hid (V_2.out.below bb)
  replace I_2 := Lib.hid (I_2.out.below bb)
  replace U_3 := Lib.hid (U_3.out.below bb)
  replace V_3 := Lib.hid (V_3.out.below bb)
  replace I_3 := Lib.hid (I_3.out.below bb)
  replace U_4 := Lib.hid (U_4.out.below bb)
  replace V_4 := Lib.hid (V_4.out.below bb)
  replace I_4 := Lib.hid (I_4.out.below bb)
  clear bb y00 y01 y10 y11 y20 y21
  have y00 := I_0.out.l
  have y01 := I_0.out.e
  have y10 := I_1.out.l
  have y11 := I_1.out.e
  have y20 := I_2.out.l
  have y21 := I_2.out.e
  go_wp2_with fail
  refine (sameInts_any (.slice U2 L3.length uc2) (.slice V2 L3.length vc2) L3 _ (U_2.out.rr EI (by have := N3.out; show L3.length ≤ 1000000000000000; omega)) (V_2.out.rr EI (by have := N3.out; show L3.length ≤ 1000000000000000; omega)) (by have := N3.out; omega)).mono ?_
  rintro e wd2 ⟨rfl, bb⟩
  replace S := Lib.hid (S.out.below bb)
  replace U_0 := Lib.hid (U_0.out.below bb)
  replace V_0 := Lib.hid (V_0.out.below bb)
  replace I_0 := Lib.hid (I_0.out.below bb)
  replace U_1 := Lib.hid (U_1.out.below bb)
  replace V_1 := Lib.hid (V_1.out.below bb)
  replace I_1 := Lib.hid (I_1.out.below bb)
  replace U_2 := Lib.hid (U_2.out.below bb)
  replace V_2 := Lib.hid (V_2.out.below bb)
  replace I_2 := Lib.hid (I_2.out.below bb)
  replace U_3 := Lib.hid (U_3.out.below bb)
  replace V_3 := Lib.hid (V_3.out.below bb)
  replace I_3 := Lib.hid (I_3.out.below bb)
  replace U_4 := Lib.hid (U_4.out.below bb)
  replace V_4 := Lib.hid (V_4.out.below bb)
  replace I_4 := Lib.hid (I_4.out.below bb)
  clear bb y00 y01 y10 y11 y20 y21
  have y01 := I_0.out.e
  have y11 := I_1.out.e
  have y21 := I_2.out.e
  go_upto_region 14 with fail
  clear y01 y11 y21
  have x0 := S.out.c
  have y30 := I_3.out.l
  have y31 := I_3.out.e
  have y40 := I_4.out.l
  have y41 := I_4.out.e
  refine wp_region_held_drew (S := BelS wd2) (by kernel_rfl) (BelS.drew0 _) (fun J0 => ?_)
  refine wpAnyH_ready (rs := [0]) (by kernel_rfl) (by simp) ?_
  refine AllReadyH.cons rfl (fun K hK => ?_) AllReadyH.nil
  go_simp
  refine (sanity_any _).mono ?_
  rintro e wq1 ⟨rfl, hq1⟩
  have J1 := J0.below hq1
  clear hq1
  refine hK.out _ _ J1 (fun _ => ?_)
  clear hK K
  try simp only [Act.put, List.setIfInBounds_toArray, List.set_cons_zero, List.set_cons_succ]
  refine takeW (i := 1) (d := some 99) (v := ?_) rfl rfl (by kernel_rfl) (by kernel_rfl) (by kernel_rfl) (fun _ _ _ h => h) (by rfl) ?_ J1 ?_
  rotate_left
  · (intro w' hSw; have q0 := hSw.c x0; have q1 := hSw.c y30; have q2 := hSw.c y31; have q3 := hSw.c y40; have q4 := hSw.c y41; go_simp; try with_reducible rfl)
  try simp only [Act.put, List.setIfInBounds_toArray, List.set_cons_zero, List.set_cons_succ]
  refine takeW (i := 2) (d := some 100) (v := ?_) rfl rfl (by kernel_rfl) (by kernel_rfl) (by kernel_rfl) (fun _ _ _ h => h) (by rfl) ?_ J1 ?_
  rotate_left
  · (intro w' hSw; have q0 := hSw.c x0; have q1 := hSw.c y30; have q2 := hSw.c y31; have q3 := hSw.c y40; have q4 := hSw.c y41; go_simp; try with_reducible rfl)
  try simp only [Act.put, List.setIfInBounds_toArray, List.set_cons_zero, List.set_cons_succ]
  refine takeW (i := 4) (d := some 102) (v := ?_) rfl rfl (by kernel_rfl) (by kernel_rfl) (by kernel_rfl) (fun _ _ _ h => h) (by rfl) ?_ J1 ?_
  rotate_left
  · (intro w' hSw; have q0 := hSw.c x0; have q1 := hSw.c y30; have q2 := hSw.c y31; have q3 := hSw.c y40; have q4 := hSw.c y41; go_simp; try with_reducible rfl)
  try simp only [Act.put, List.setIfInBounds_toArray, List.set_cons_zero, List.set_cons_succ]
  refine wpAnyH_ready (rs := [3]) (by kernel_rfl) (by simp) ?_
  refine AllReadyH.cons rfl (fun K hK => ?_) AllReadyH.nil
  go_simp
  refine (D1.out _ (S.out.bel.trans ((BelS.b J1).mono S.out.siz))).mono ?_
  rintro e wq2 ⟨rfl, hq2⟩
  have J2 := J1.below hq2
  clear hq2
  refine hK.out _ _ J2 (fun _ => ?_)
  clear hK K
  try simp only [Act.put, List.setIfInBounds_toArray, List.set_cons_zero, List.set_cons_succ]
  refine wpAnyH_ready (rs := [5]) (by kernel_rfl) (by simp) ?_
  refine AllReadyH.cons rfl (fun K hK => ?_) AllReadyH.nil
  go_simp
  refine (D2.out _ (S.out.bel.trans ((BelS.b J2).mono S.out.siz))).mono ?_
  rintro e wq3 ⟨rfl, hq3⟩
  have J3 := J2.below hq3
  clear hq3
  refine hK.out _ _ J3 (fun _ => ?_)
  clear hK K
  try simp only [Act.put, List.setIfInBounds_toArray, List.set_cons_zero, List.set_cons_succ]
  refine takeW (i := 6) (d := some 104) (v := ?_) rfl rfl (by kernel_rfl) (by kernel_rfl) (by kernel_rfl) (fun _ _ _ h => h) (by rfl) ?_ J3 ?_
  rotate_left
  · (intro w' hSw; have q0 := hSw.c x0; have q1 := hSw.c y30; have q2 := hSw.c y31; have q3 := hSw.c y40; have q4 := hSw.c y41; go_simp; try with_reducible rfl)
  try simp only [Act.put, List.setIfInBounds_toArray, List.set_cons_zero, List.set_cons_succ]
  refine takeW (i := 7) (d := some 105) (v := ?_) rfl rfl (by kernel_rfl) (by kernel_rfl) (by kernel_rfl) (fun _ _ _ h => h) (by rfl) ?_ J3 ?_
  rotate_left
  · (intro w' hSw; have q0 := hSw.c x0; have q1 := hSw.c y30; have q2 := hSw.c y31; have q3 := hSw.c y40; have q4 := hSw.c y41; go_simp; try with_reducible rfl)
  try simp only [Act.put, List.setIfInBounds_toArray, List.set_cons_zero, List.set_cons_succ]
  refine takeW (i := 8) (d := some 106) (v := ?_) rfl rfl (by kernel_rfl) (by kernel_rfl) (by kernel_rfl) (fun _ _ _ h => h) (by rfl) ?_ J3 ?_
  rotate_left
  · (intro w' hSw; have q0 := hSw.c x0; have q1 := hSw.c y30; have q2 := hSw.c y31; have q3 := hSw.c y40; have q4 := hSw.c y41; go_simp; try with_reducible rfl)
  try simp only [Act.put, List.setIfInBounds_toArray, List.set_cons_zero, List.set_cons_succ]
  refine takeW (i := 9) (d := some 107) (v := ?_) rfl rfl (by kernel_rfl) (by kernel_rfl) (by kernel_rfl) (fun _ _ _ h => h) (by rfl) ?_ J3 ?_
  rotate_left
  · (intro w' hSw; have q0 := hSw.c x0; have q1 := hSw.c y30; have q2 := hSw.c y31; have q3 := hSw.c y40; have q4 := hSw.c y41; go_simp; try with_reducible rfl)
  try simp only [Act.put, List.setIfInBounds_toArray, List.set_cons_zero, List.set_cons_succ]
  refine takeW (i := 10) (d := some 108) (v := ?_) rfl rfl (by kernel_rfl) (by kernel_rfl) (by kernel_rfl) (fun _ _ _ h => h) (by rfl) ?_ J3 ?_
  rotate_left
  · (intro w' hSw; have q0 := hSw.c x0; have q1 := hSw.c y30; have q2 := hSw.c y31; have q3 := hSw.c y40; have q4 := hSw.c y41; go_simp; try with_reducible rfl)
  try simp only [Act.put, List.setIfInBounds_toArray, List.set_cons_zero, List.set_cons_succ]
  refine takeW (i := 11) (d := some 109) (v := ?_) rfl rfl (by kernel_rfl) (by kernel_rfl) (by kernel_rfl) (fun _ _ _ h => h) (by rfl) ?_ J3 ?_
  rotate_left
  · (intro w' hSw; have q0 := hSw.c x0; have q1 := hSw.c y30; have q2 := hSw.c y31; have q3 := hSw.c y40; have q4 := hSw.c y41; go_simp; try with_reducible rfl)
  try simp only [Act.put, List.setIfInBounds_toArray, List.set_cons_zero, List.set_cons_succ]
  refine takeW (i := 12) (d := some 110) (v := ?_) rfl rfl (by kernel_rfl) (by kernel_rfl) (by kernel_rfl) (fun _ _ _ h => h) (by rfl) ?_ J3 ?_
  rotate_left
  · (intro w' hSw; have q0 := hSw.c x0; have q1 := hSw.c y30; have q2 := hSw.c y31; have q3 := hSw.c y40; have q4 := hSw.c y41; go_simp; try with_reducible rfl)
  try simp only [Act.put, List.setIfInBounds_toArray, List.set_cons_zero, List.set_cons_succ]
  refine takeW (i := 13) (d := some 111) (v := ?_) rfl rfl (by kernel_rfl) (by kernel_rfl) (by kernel_rfl) (fun _ _ _ h => h) (by rfl) ?_ J3 ?_
  rotate_left
  · (intro w' hSw; have q0 := hSw.c x0; have q1 := hSw.c y30; have q2 := hSw.c y31; have q3 := hSw.c y40; have q4 := hSw.c y41; go_simp; try with_reducible rfl)
  try simp only [Act.put, List.setIfInBounds_toArray, List.set_cons_zero, List.set_cons_succ]
  refine takeW (i := 14) (d := some 112) (v := ?_) rfl rfl (by kernel_rfl) (by kernel_rfl) (by kernel_rfl) (fun _ _ _ h => h) (by rfl) ?_ J3 ?_
  rotate_left
  · (intro w' hSw; have q0 := hSw.c x0; have q1 := hSw.c y30; have q2 := hSw.c y31; have q3 := hSw.c y40; have q4 := hSw.c y41; go_simp; try with_reducible rfl)
  try simp only [Act.put, List.setIfInBounds_toArray, List.set_cons_zero, List.set_cons_succ]
  refine wpAnyH_ready (rs := [15]) (by kernel_rfl) (by simp) ?_
  refine AllReadyH.cons rfl (fun K hK => ?_) AllReadyH.nil
  go_simp
  refine (sameInts_any (.slice U3 Mp.length uc3) (.slice V3 Mp.length vc3) Mp _ ((U_3.out.rr EI (by have := N4.out; show Mp.length ≤ 1000000000000000; omega)).up (BelS.b J3).size (BelS.b J3)) ((V_3.out.rr EI (by have := N4.out; show Mp.length ≤ 1000000000000000; omega)).up (BelS.b J3).size (BelS.b J3)) (by have := N4.out; omega)).mono ?_
  rintro e wq4 ⟨rfl, hq4⟩
  have J4 := J3.below hq4
  clear hq4
  refine hK.out _ _ J4 (fun _ => ?_)
  clear hK K
  try simp only [Act.put, List.setIfInBounds_toArray, List.set_cons_zero, List.set_cons_succ]
  refine takeW (i := 16) (d := some 114) (v := ?_) rfl rfl (by kernel_rfl) (by kernel_rfl) (by kernel_rfl) (fun _ _ _ h => h) (by rfl) ?_ J4 ?_
  rotate_left
  · (intro w' hSw; have q0 := hSw.c x0; have q1 := hSw.c y30; have q2 := hSw.c y31; have q3 := hSw.c y40; have q4 := hSw.c y41; go_simp; try with_reducible rfl)
  try simp only [Act.put, List.setIfInBounds_toArray, List.set_cons_zero, List.set_cons_succ]
  refine takeW (i := 17) (d := some 115) (v := ?_) rfl rfl (by kernel_rfl) (by kernel_rfl) (by kernel_rfl) (fun _ _ _ h => h) (by rfl) ?_ J4 ?_
  rotate_left
  · (intro w' hSw; have q0 := hSw.c x0; have q1 := hSw.c y30; have q2 := hSw.c y31; have q3 := hSw.c y40; have q4 := hSw.c y41; go_simp; try with_reducible rfl)
  try simp only [Act.put, List.setIfInBounds_toArray, List.set_cons_zero, List.set_cons_succ]
  refine takeW (i := 18) (d := some 116) (v := ?_) rfl rfl (by kernel_rfl) (by kernel_rfl) (by kernel_rfl) (fun _ _ _ h => h) (by rfl) ?_ J4 ?_
  rotate_left
  · (intro w' hSw; have q0 := hSw.c x0; have q1 := hSw.c y30; have q2 := hSw.c y31; have q3 := hSw.c y40; have q4 := hSw.c y41; go_simp; try with_reducible rfl)
  try simp only [Act.put, List.setIfInBounds_toArray, List.set_cons_zero, List.set_cons_succ]
  refine takeW (i := 19) (d := some 117) (v := ?_) rfl rfl (by kernel_rfl) (by kernel_rfl) (by kernel_rfl) (fun _ _ _ h => h) (by rfl) ?_ J4 ?_
  rotate_left
  · (intro w' hSw; have q0 := hSw.c x0; have q1 := hSw.c y30; have q2 := hSw.c y31; have q3 := hSw.c y40; have q4 := hSw.c y41; go_simp; try with_reducible rfl)
  try simp only [Act.put, List.setIfInBounds_toArray, List.set_cons_zero, List.set_cons_succ]
  refine takeW (i := 20) (d := some 118) (v := ?_) rfl rfl (by kernel_rfl) (by kernel_rfl) (by kernel_rfl) (fun _ _ _ h => h) (by rfl) ?_ J4 ?_
  rotate_left
  · (intro w' hSw; have q0 := hSw.c x0; have q1 := hSw.c y30; have q2 := hSw.c y31; have q3 := hSw.c y40; have q4 := hSw.c y41; go_simp; try with_reducible rfl)
  try simp only [Act.put, List.setIfInBounds_toArray, List.set_cons_zero, List.set_cons_succ]
  refine takeW (i := 21) (d := some 119) (v := ?_) rfl rfl (by kernel_rfl) (by kernel_rfl) (by kernel_rfl) (fun _ _ _ h => h) (by rfl) ?_ J4 ?_
  rotate_left
  · (intro w' hSw; have q0 := hSw.c x0; have q1 := hSw.c y30; have q2 := hSw.c y31; have q3 := hSw.c y40; have q4 := hSw.c y41; go_simp; try with_reducible rfl)
  try simp only [Act.put, List.setIfInBounds_toArray, List.set_cons_zero, List.set_cons_succ]
  refine takeW (i := 22) (d := some 120) (v := ?_) rfl rfl (by kernel_rfl) (by kernel_rfl) (by kernel_rfl) (fun _ _ _ h => h) (by rfl) ?_ J4 ?_
  rotate_left
  · (intro w' hSw; have q0 := hSw.c x0; have q1 := hSw.c y30; have q2 := hSw.c y31; have q3 := hSw.c y40; have q4 := hSw.c y41; go_simp; try with_reducible rfl)
  try simp only [Act.put, List.setIfInBounds_toArray, List.set_cons_zero, List.set_cons_succ]
  refine takeW (i := 23) (d := some 121) (v := ?_) rfl rfl (by kernel_rfl) (by kernel_rfl) (by kernel_rfl) (fun _ _ _ h => h) (by rfl) ?_ J4 ?_
  rotate_left
  · (intro w' hSw; have q0 := hSw.c x0; have q1 := hSw.c y30; have q2 := hSw.c y31; have q3 := hSw.c y40; have q4 := hSw.c y41; go_simp; try with_reducible rfl)
  try simp only [Act.put, List.setIfInBounds_toArray, List.set_cons_zero, List.set_cons_succ]
  refine takeW (i := 24) (d := some 122) (v := ?_) rfl rfl (by kernel_rfl) (by kernel_rfl) (by kernel_rfl) (fun _ _ _ h => h) (by rfl) ?_ J4 ?_
  rotate_left
  · (intro w' hSw; have q0 := hSw.c x0; have q1 := hSw.c y30; have q2 := hSw.c y31; have q3 := hSw.c y40; have q4 := hSw.c y41; go_simp; try with_reducible rfl)
  try simp only [Act.put, List.setIfInBounds_toArray, List.set_cons_zero, List.set_cons_succ]
  refine takeW (i := 25) (d := some 123) (v := ?_) rfl rfl (by kernel_rfl) (by kernel_rfl) (by kernel_rfl) (fun _ _ _ h => h) (by rfl) ?_ J4 ?_
  rotate_left
  · (intro w' hSw; have q0 := hSw.c x0; have q1 := hSw.c y30; have q2 := hSw.c y31; have q3 := hSw.c y40; have q4 := hSw.c y41; go_simp; try with_reducible rfl)
  try simp only [Act.put, List.setIfInBounds_toArray, List.set_cons_zero, List.set_cons_succ]
  refine takeW (i := 26) (d := some 124) (v := ?_) rfl rfl (by kernel_rfl) (by kernel_rfl) (by kernel_rfl) (fun _ _ _ h => h) (by rfl) ?_ J4 ?_
  rotate_left
  · (intro w' hSw; have q0 := hSw.c x0; have q1 := hSw.c y30; have q2 := hSw.c y31; have q3 := hSw.c y40; have q4 := hSw.c y41; go_simp; try with_reducible rfl)
  try simp only [Act.put, List.setIfInBounds_toArray, List.set_cons_zero, List.set_cons_succ]
  refine wpAnyH_ready (rs := [27]) (by kernel_rfl) (by simp) ?_
  refine AllReadyH.cons rfl (fun K hK => ?_) AllReadyH.nil
  go_simp
  refine (sameInts_any (.slice U4 Mb.length uc4) (.slice V4 Mb.length vc4) Mb _ ((U_4.out.rr EI (by have := N5.out; show Mb.length ≤ 1000000000000000; omega)).up (BelS.b J4).size (BelS.b J4)) ((V_4.out.rr EI (by have := N5.out; show Mb.length ≤ 1000000000000000; omega)).up (BelS.b J4).size (BelS.b J4)) (by have := N5.out; omega)).mono ?_
  rintro e wq5 ⟨rfl, hq5⟩
  have J5 := J4.below hq5
  clear hq5
  refine hK.out _ _ J5 (fun _ => ?_)
  clear hK K
  try simp only [Act.put, List.setIfInBounds_toArray, List.set_cons_zero, List.set_cons_succ]
  refine takeW (i := 28) (d := some 126) (v := ?_) rfl rfl (by kernel_rfl) (by kernel_rfl) (by kernel_rfl) (fun _ _ _ h => h) (by rfl) ?_ J5 ?_
  rotate_left
  · (intro w' hSw; have q0 := hSw.c x0; have q1 := hSw.c y30; have q2 := hSw.c y31; have q3 := hSw.c y40; have q4 := hSw.c y41; go_simp; try with_reducible rfl)
  try simp only [Act.put, List.setIfInBounds_toArray, List.set_cons_zero, List.set_cons_succ]
  refine takeW (i := 29) (d := some 127) (v := ?_) rfl rfl (by kernel_rfl) (by kernel_rfl) (by kernel_rfl) (fun _ _ _ h => h) (by rfl) ?_ J5 ?_
  rotate_left
  · (intro w' hSw; have q0 := hSw.c x0; have q1 := hSw.c y30; have q2 := hSw.c y31; have q3 := hSw.c y40; have q4 := hSw.c y41; go_simp; try with_reducible rfl)
  try simp only [Act.put, List.setIfInBounds_toArray, List.set_cons_zero, List.set_cons_succ]
  refine takeW (i := 30) (d := some 128) (v := ?_) rfl rfl (by kernel_rfl) (by kernel_rfl) (by kernel_rfl) (fun _ _ _ h => h) (by rfl) ?_ J5 ?_
  rotate_left
  · (intro w' hSw; have q0 := hSw.c x0; have q1 := hSw.c y30; have q2 := hSw.c y31; have q3 := hSw.c y40; have q4 := hSw.c y41; go_simp; try with_reducible rfl)
  try simp only [Act.put, List.setIfInBounds_toArray, List.set_cons_zero, List.set_cons_succ]
  refine takeW (i := 31) (d := some 129) (v := ?_) rfl rfl (by kernel_rfl) (by kernel_rfl) (by kernel_rfl) (fun _ _ _ h => h) (by rfl) ?_ J5 ?_
  rotate_left
  · (intro w' hSw; have q0 := hSw.c x0; have q1 := hSw.c y30; have q2 := hSw.c y31; have q3 := hSw.c y40; have q4 := hSw.c y41; go_simp; try with_reducible rfl)
  try simp only [Act.put, List.setIfInBounds_toArray, List.set_cons_zero, List.set_cons_succ]
  refine takeW (i := 32) (d := some 130) (v := ?_) rfl rfl (by kernel_rfl) (by kernel_rfl) (by kernel_rfl) (fun _ _ _ h => h) (by rfl) ?_ J5 ?_
  rotate_left
  · (intro w' hSw; have q0 := hSw.c x0; have q1 := hSw.c y30; have q2 := hSw.c y31; have q3 := hSw.c y40; have q4 := hSw.c y41; go_simp; try with_reducible rfl)
  try simp only [Act.put, List.setIfInBounds_toArray, List.set_cons_zero, List.set_cons_succ]
  refine takeW (i := 33) (d := some 131) (v := ?_) rfl rfl (by kernel_rfl) (by kernel_rfl) (by kernel_rfl) (fun _ _ _ h => h) (by rfl) ?_ J5 ?_
  rotate_left
  · (intro w' hSw; have q0 := hSw.c x0; have q1 := hSw.c y30; have q2 := hSw.c y31; have q3 := hSw.c y40; have q4 := hSw.c y41; go_simp; try with_reducible rfl)
  try simp only [Act.put, List.setIfInBounds_toArray, List.set_cons_zero, List.set_cons_succ]
  refine takeW (i := 34) (d := some 132) (v := ?_) rfl rfl (by kernel_rfl) (by kernel_rfl) (by kernel_rfl) (fun _ _ _ h => h) (by rfl) ?_ J5 ?_
  rotate_left
  · (intro w' hSw; have q0 := hSw.c x0; have q1 := hSw.c y30; have q2 := hSw.c y31; have q3 := hSw.c y40; have q4 := hSw.c y41; go_simp; try with_reducible rfl)
  try simp only [Act.put, List.setIfInBounds_toArray, List.set_cons_zero, List.set_cons_succ]
  refine takeW (i := 35) (d := some 4) (v := ?_) rfl rfl (by kernel_rfl) (by kernel_rfl) (by kernel_rfl) (fun _ _ _ h => h) (by rfl) ?_ J5 ?_
  rotate_left
  · (intro w' hSw; have q0 := hSw.c x0; have q1 := hSw.c y30; have q2 := hSw.c y31; have q3 := hSw.c y40; have q4 := hSw.c y41; go_simp; try with_reducible rfl)
  try simp only [Act.put, List.setIfInBounds_toArray, List.set_cons_zero, List.set_cons_succ]
  refine wpAnyH_done (by kernel_rfl) ?_ _
  have BE := Lib.hid (S.out.bel.trans ((BelS.b J5).mono S.out.siz))
  clear x0 y30 y31 y40 y41
  go_wp2_with fail
  go_ret
  exact ⟨rfl, BE.out⟩
end Go.Proofs.Ytmmbmnihhdhbeaa

/- The law CarrierChecks holds for every input: the row. -/
namespace Go.Proofs.Ytmmbmnihhdhbeaa
open Go.ChangeShapes Go.WideShapes Go.ChangeAt Go.RowKit Go.Joins

namespace carrierChecks
def wargs : Array Value := #[.agg #[.slice none 0 0], .int .i64 0]
theorem laid_met (os : Os) : laidMet Try.prog Rows.carrierChecksRow.laid ((World.holding Try.prog os ⟨#[], #[], []⟩).forCall (fun _ _ => 0) ⟨#[], wargs, []⟩).memory :=
  laidMet_of_run' 8 (by kernel_rfl) (by kernel_rfl)
theorem reads (os : Os) {H : Type} (enc : TypeId × Value → H) : ∃ places, DataW.whole enc Try.prog ((World.holding Try.prog os ⟨#[], #[], []⟩).forCall (fun _ _ => 0) ⟨#[], wargs, []⟩).memory Try.f9.params.toList Rows.carrierChecksSpec.vars false wargs.toList 8 = some ([.agg [.nil], .lit (.int .i64 0)], [], places) :=
  ⟨[], by kernel_rfl⟩

set_option maxHeartbeats 1000000 in
set_option maxRecDepth 100000 in
/-- What the walk gives, for every argument. -/
theorem contract (H : Type) (enc : TypeId × Value → H) (W : World) (base : Nat) (args : Array Value) (ds gs : List (DataW H)) (before : List MemPlace)
    (hval : ∀ (j : Nat) t v, Try.f9.params[j]? = some t → args[j]? = some v → Value.okWide Try.prog W .any base t v)
    (hW : DataW.Whole enc Try.prog Try.f9.params.toList Rows.carrierChecksSpec.vars false W args.toList ds gs before)
    (hwt : (DataW.weightsEach Try.prog (Try.f9.params.toList ++ DataSpec.varTypes Try.prog (OpenSpec.ofChange Rows.carrierChecksSpec).bare.plain) (ds ++ gs)).all (· ≤ reachBytes) = true) :
    Calls Try.prog 9 args W fun e W' => ∃ v, e = .returned v ∧ Rows.carrierChecksSpec.post enc Try.prog Try.f9 false true false false W args v W' := by
  have hW' := hW
  obtain ⟨p, q, hA0, hV, rfl, hfz, hnd⟩ := hW
  have hA : DataW.TrodAll enc Try.prog W 0 (fun _ => true) true Try.f9.params.toList args.toList ds p := hA0
  have hAk := hA
  have hsize : ∀ t ∈ Try.f9.params.toList, t < Try.prog.types.size := by rw [Try.params9]; decide +kernel
  have hwt' := hwt
  rw [Try.params9] at hA hval hwt'
  obtain ⟨v0, vs0, d0, ds0, p0, q0, hargs, rfl, rfl, h0, r0⟩ := trodAll_cons hA
  obtain ⟨v1, vs1, d1, ds1, p1, q1, rfl, rfl, rfl, h1, r1⟩ := trodAll_cons r0
  obtain ⟨rfl, rfl, rfl⟩ := trodAll_nil r1
  obtain rfl : args = #[v0, v1] := by cases args; simp_all
  obtain ⟨rfl, rfl⟩ := trodVars_none hV
  obtain ⟨A, c, ws, rfl, hk⟩ := works_open (hval 0 24 v0 rfl rfl) h0 (WB.each _ _ hwt' 0 _ _ rfl rfl)
  obtain ⟨n, rfl, rfl, rfl, wn⟩ := open_int Try.underlying3 (hval 1 3 v1 rfl rfl) h1
  have hcall := checks_law A c ws n W hk
  refine hcall.mono fun e W' ⟨he, hb⟩ => ?_
  subst he
  refine ⟨_, rfl, _, _, _, [], _, [], hW', ?_, args_again hb hsize hAk, ?_, hb.frame _, fun h => by cases h⟩
  · exact trodAll_cons_mk (shut_bool Try.underlying4 _) trodAll_mk0
  · rfl

set_option maxRecDepth 100000 in
theorem lifted (os : Os) (started : os.Started) (H : Type) (enc : TypeId × Value → H) (F : Stop.Interp) :
    ReturnsInHanded {} Try.checked os 9 .any ((OpenSpec.ofChange Rows.carrierChecksSpec).preRow enc Try.prog Try.f9 Rows.carrierChecksRow.domain false Rows.carrierChecksRow.laid) (((OpenSpec.ofChange Rows.carrierChecksSpec).at F).post enc Try.prog Try.f9 false true false false) := by
  obtain ⟨places, hx⟩ := reads os enc
  refine returnsInHanded_of_row (C := Try.checked) (s := OpenSpec.ofChange Rows.carrierChecksSpec) own started (by kernel_rfl) Try.func9
    (witness_row_at (enc := enc) (C := Try.checked) false (World.holding Try.prog os ⟨#[], #[], []⟩) wargs rfl (by kernel_rfl) (by kernel_rfl) (by kernel_rfl)
      (OpenSpec.preRow_of_cond 8 hx (by kernel_rfl) (fun k hk => by cases hk) (by kernel_rfl) (laid_met os))) ?_
  intro W base args ds gs before hval hW _ _ hwt hL _ _
  exact contract H enc W base args ds gs before hval hW hwt

theorem said : Rows.CarrierChecksSaid :=
  OpenClaim.holds_of_cond 9 Try.f9 rfl rfl rfl rfl rfl rfl rfl ⟨rfl, rfl, rfl, rfl, rfl⟩ rfl rfl rfl rfl rfl (by kernel_rfl) Try.func9 (by kernel_rfl)
    (of_decide_eq_true (by kernel_rfl)) (by unfold Func.isWrapper; first | (rw [if_pos (by decide +kernel)]; kernel_rfl) | (rw [if_neg (by decide +kernel)]; exact ⟨rfl, rfl⟩))
    (fun os started H enc _ F => by rw [OpenClaim.pre_eq_preRow]; exact lifted os started H enc F)
end carrierChecks
theorem carrierChecks_holds : Rows.CarrierChecksSaid := carrierChecks.said
end Go.Proofs.Ytmmbmnihhdhbeaa
