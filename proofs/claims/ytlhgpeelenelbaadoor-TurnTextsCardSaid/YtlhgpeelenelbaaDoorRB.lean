/- Contracts of the specification's reader: a word, a number. -/
import Derived.Test.YtlhgpeelenelbaaDoorRA
namespace Go.Proofs.YtlhgpeelenelbaaDoor
open Go.RowKit

/-- The specification's reader in block R: its text, where it stands, whether it has failed. -/
def RgAt (R : Nat) (s : ByteArray) (st : Nat × Bool) (W : World) : Prop := W.heap[R]? = some (.cells #[.string s, .int .i64 st.1, .bool st.2] 143 (0, 0))
section
variable {R : Nat} {s : ByteArray} {st : Nat × Bool} {W W' : World}
theorem RgAt.cells (h : RgAt R s st W) : W.cell? ⟨R, 0, none⟩ = some (.string s) ∧ W.cell? ⟨R, 1, none⟩ = some (.int .i64 st.1) ∧ W.cell? ⟨R, 2, none⟩ = some (.bool st.2) := by
  have h' : W.heap[R]? = _ := h
  exact ⟨by simp [World.cell?, h'], by simp [World.cell?, h'], by simp [World.cell?, h']⟩
theorem RgAt.frz (h : RgAt R s st W) (i : Nat) : W.frozen? ⟨R, i, none⟩ = false := heap_frozen h i
theorem RgAt.lt (h : RgAt R s st W) : R < W.heap.size := (Array.getElem?_eq_some_iff.1 (show W.heap[R]? = _ from h)).1
theorem RgAt.grown {bs : List Nat} (h : RgAt R s st W) (hg : GrownL bs W W') (hn : R ∉ bs) : RgAt R s st W' := (hg.block R h.lt hn).trans h
theorem RgAt.drewN (h : RgAt R s st W) (n : Nat) : RgAt R s st (W.drewN n) := h
theorem RgAt.move (h : RgAt R s st W) (a : Nat) : RgAt R s (a, st.2) (W.setCell ⟨R, 1, none⟩ (.int .i64 a)) := set3_1 h
theorem RgAt.fail (h : RgAt R s st W) : RgAt R s (st.1, true) (W.setCell ⟨R, 2, none⟩ (.bool true)) := set3_2 h
end
theorem gset (R : Nat) (i : Nat) (W : World) (v : Value) : GrownL [R] W (W.setCell ⟨R, i, none⟩ v) := GrownL.set _ _ _ (by simp)
theorem GrownL.drewN' {bs : List Nat} {W W' : World} (h : GrownL bs W W') (n : Nat) : GrownL bs W (W'.drewN n) := ⟨h.os, h.tape, h.output, h.size, h.block⟩
def GwPost (R : Nat) (s : ByteArray) (st : Nat × Bool) (w : World) (e : Ending) (w' : World) : Prop := (∃ v, e = .returned v) ∧ RgAt R s st w' ∧ GrownL [R] w w'
theorem wordF_app (s l1 l2 : List UInt8) (st : Nat × Bool) : wordF s (l1 ++ l2) st = wordF s l2 (wordF s l1 st) := by simp [wordF, List.foldl_append]
theorem wordF_stays {s w : List UInt8} {i a : Nat} {st : Nat × Bool} (h : wordF s (w.take i) st = (a, true)) : wordF s w st = (a, true) := by
  conv => lhs; rw [← List.take_append_drop i w]
  rw [wordF_app, h, wordF_bad]

set_option maxHeartbeats 8000000 in
set_option maxRecDepth 100000 in
theorem gword_any (R : Nat) (s wd : ByteArray) (st : Nat × Bool) (w : World) (h : RgAt R s st w) (hat : st.1 ≤ s.size) (hsx : s.size ≤ 1000000) (hmx : wd.size ≤ 1000) :
    Calls Tryd.prog 114 #[.pointer (some ⟨R, 0, none⟩), .string wd] w (GwPost R s (wordF s.data.toList wd.data.toList st) w) := by
  have HH := Lib.hid h
  have hwl : wd.data.toList.length = wd.size := rfl
  have HWL := Lib.hid hwl
  have HAT := Lib.hid hat
  clear h hwl hat
  go_enter Tryd.func114, Tryd.ntmps114
  go_wp2_with fail
  go_loopw [4] (fun u wr => ∃ i : Nat, u = .int .i64 i ∧ i ≤ wd.size ∧ RgAt R s (wordF s.data.toList (wd.data.toList.take i) st) wr ∧ GrownL [R] w wr) (fun u _ => wd.size - (intOf u).toNat)
  case atStart => exact ⟨0, rfl, by omega, HH.out, GrownL.refl _ _⟩
  case round =>
    obtain ⟨i, rfl, hiw, hr, hg⟩ := hrel
    have HG := Lib.hid hg
    have HE := Lib.hid (wordF_le s.data.toList (wd.data.toList.take i) st HAT.out)
    obtain ⟨⟨a, bad⟩, hq⟩ : ∃ q, wordF s.data.toList (wd.data.toList.take i) st = q := ⟨_, rfl⟩
    rw [hq] at hr HE
    have HQ := Lib.hid hq
    have HR := Lib.hid hr
    obtain ⟨r0, r1, r2⟩ := hr.cells
    have f1 := hr.frz 1
    have f2 := hr.frz 2
    simp only at r1 r2
    clear hr hg hq
    by_cases hi : i < wd.size
    · have hi' : (i : Int) < (wd.size : Int) := by omega
      have HT : Hid (wordF s.data.toList (wd.data.toList.take (i + 1)) st = stepW s.data.toList (a, bad) wd[i]) := Lib.hid (by
        rw [List.take_succ_eq_append_getElem (show i < wd.data.toList.length from hi), wordF_snoc, HQ.out]; rfl)
      cases bad
      · by_cases hae : a < s.size
        · have hae' : (a : Int) < (s.size : Int) := by omega
          have hae2 : ¬ (s.size : Int) ≤ (a : Int) := by omega
          have HB := Lib.hid (byte_at hae)
          by_cases hb : s[a] = wd[i]
          · have hb' : (((s[a]'hae).toNat : Int) != ((wd[i]'hi).toNat : Int)) = false := by rw [hb]; simp
            have HS : Hid (stepW s.data.toList (a, false) wd[i] = (a + 1, false)) := Lib.hid (by unfold stepW; simp [HB.out, hb])
            have W1 : IntKind.i64.wrap ((a : Int) + 1) = (a : Int) + 1 := IntWalk.i64_in _ (by omega)
            go_wp2_with fail
            go_quiet (fail)
            go_wp2_with fail
            have k1 := (HR.out.drewN nq).move (a + 1)
            go_roundw
            case rel => exact ⟨i + 1, by go_num, by omega, by rw [HT.out, HS.out]; exact_mod_cast k1, (HG.out.drewN' nq).trans (gset _ _ _ _)⟩
            case measure => show wd.size - ((i : Int) + 1).toNat < wd.size - (i : Int).toNat; omega
          · have hb' : (((s[a]'hae).toNat : Int) != ((wd[i]'hi).toNat : Int)) = true := bne_iff_ne.2 (fun e => hb (UInt8.toNat.inj (by omega)))
            have HS : Hid (stepW s.data.toList (a, false) wd[i] = (a, true)) := Lib.hid (by unfold stepW; simp [HB.out, hb])
            go_wp2_with fail
            go_quiet (fail)
            go_wp2_with fail
            refine bodyPost_end (results_none rfl _ _ _) rfl ?_
            exact ⟨⟨_, rfl⟩, by rw [wordF_stays (HT.out.trans HS.out)]; exact (HR.out.drewN nq).fail, (HG.out.drewN' nq).trans (gset _ _ _ _)⟩
        · have hae' : (s.size : Int) ≤ (a : Int) := by omega
          have HS : Hid (stepW s.data.toList (a, false) wd[i] = (a, true)) := Lib.hid (by unfold stepW; simp [List.getElem?_eq_none (show s.data.toList.length ≤ a from by show s.size ≤ a; omega)])
          go_wp2_with fail
          go_quiet (fail)
          go_wp2_with fail
          refine bodyPost_end (results_none rfl _ _ _) rfl ?_
          exact ⟨⟨_, rfl⟩, by rw [wordF_stays (HT.out.trans HS.out)]; exact (HR.out.drewN nq).fail, (HG.out.drewN' nq).trans (gset _ _ _ _)⟩
      · go_wp2_with fail
        refine bodyPost_end (results_none rfl _ _ _) rfl ?_
        exact ⟨⟨_, rfl⟩, by rw [wordF_stays HQ.out]; exact HR.out, HG.out⟩
    · have hi' : (wd.size : Int) ≤ (i : Int) := by omega
      have HF : Hid (wordF s.data.toList wd.data.toList st = (a, bad)) := Lib.hid (by rw [← HQ.out, List.take_of_length_le (by rw [HWL.out]; omega)])
      go_wp2_with fail
      refine bodyPost_end (results_none rfl _ _ _) rfl ?_
      exact ⟨⟨_, rfl⟩, by rw [HF.out]; exact HR.out, HG.out⟩
end Go.Proofs.YtlhgpeelenelbaaDoor

/- Contract of the specification's reader: a number. -/
namespace Go.Proofs.YtlhgpeelenelbaaDoor
open Go.RowKit

/-- The digits from a place on. -/
def numGN (s : List UInt8) (lo hi : Int) (b : Nat) (n : Int) (a : Nat) : Int × Nat × Bool := numGL s lo hi b (s.length - a) n a
theorem numG_eq (s : List UInt8) (lo hi : Int) (b : Nat) : numG s lo hi (b, false) = if (numGN s lo hi b 0 b).2.2 = true ∨ (numGN s lo hi b 0 b).2.1 = b ∨ ¬ (lo ≤ (numGN s lo hi b 0 b).1 ∧ (numGN s lo hi b 0 b).1 ≤ hi) then (0, (numGN s lo hi b 0 b).2.1, true) else ((numGN s lo hi b 0 b).1, (numGN s lo hi b 0 b).2.1, false) := rfl
section
variable {s : List UInt8} {lo hi n : Int} {b a : Nat} {c : UInt8}
theorem gn_end (h : s.length ≤ a) : numGN s lo hi b n a = (n, a, false) := by
  unfold numGN
  rw [show s.length - a = 0 by omega]
  rfl
theorem gn_no (hc : s[a]? = some c) (hd : isDig c = false) : numGN s lo hi b n a = (n, a, false) := by
  have hl := (List.getElem?_eq_some_iff.1 hc).1
  unfold numGN
  obtain ⟨f, hf⟩ : ∃ f, s.length - a = f + 1 := ⟨s.length - a - 1, by omega⟩
  rw [hf]
  unfold numGL
  simp [hc, hd]
theorem gn_bad (hc : s[a]? = some c) (hd : isDig c = true) (h : beginsB (n * 10 + ((c.toNat : Int) - 48)) lo hi = false ∨ (b < a ∧ n = 0)) : numGN s lo hi b n a = (0, a, true) := by
  have hl := (List.getElem?_eq_some_iff.1 hc).1
  unfold numGN
  obtain ⟨f, hf⟩ : ∃ f, s.length - a = f + 1 := ⟨s.length - a - 1, by omega⟩
  rw [hf]
  unfold numGL
  rw [hc]
  simp only
  rw [if_pos hd, if_pos h]
theorem gn_go (hc : s[a]? = some c) (hd : isDig c = true) (h : ¬ (beginsB (n * 10 + ((c.toNat : Int) - 48)) lo hi = false ∨ (b < a ∧ n = 0))) : numGN s lo hi b n a = numGN s lo hi b (n * 10 + ((c.toNat : Int) - 48)) (a + 1) := by
  have hl := (List.getElem?_eq_some_iff.1 hc).1
  conv => lhs; unfold numGN
  obtain ⟨f, hf⟩ : ∃ f, s.length - a = f + 1 := ⟨s.length - a - 1, by omega⟩
  rw [hf]
  conv => lhs; unfold numGL
  rw [hc]
  simp only
  rw [if_pos hd, if_neg h]
  unfold numGN
  rw [show s.length - (a + 1) = f by omega]
end
def GnPost (R : Nat) (s : ByteArray) (q : Int × Nat × Bool) (w : World) (e : Ending) (w' : World) : Prop := e = .returned (.int .i64 q.1) ∧ RgAt R s q.2 w' ∧ GrownL [R] w w'

set_option maxHeartbeats 8000000 in
set_option maxRecDepth 100000 in
theorem gnumber_bad (R : Nat) (s : ByteArray) (lo hi : Int) (b : Nat) (w : World) (h : RgAt R s (b, true) w) (hb : b ≤ 1000000) :
    Calls Tryd.prog 115 #[.pointer (some ⟨R, 0, none⟩), .int .i64 lo, .int .i64 hi] w (GnPost R s (0, b, true) w) := by
  have HR := Lib.hid h
  obtain ⟨r0, r1, r2⟩ := h.cells
  have f1 := h.frz 1
  have f2 := h.frz 2
  simp only at r1 r2
  clear h
  go_enter Tryd.func115, Tryd.ntmps115
  go_wp2_with fail
  go_loopw [7] (fun u wr => u = .int .i64 0 ∧ ∃ n, wr = w.drewN n) (fun _ _ => 0)
  case atStart => exact ⟨rfl, 0, rfl⟩
  case round =>
    obtain ⟨rfl, n, rfl⟩ := hrel
    have r0' : (w.drewN n).cell? ⟨R, 0, none⟩ = _ := r0
    have r1' : (w.drewN n).cell? ⟨R, 1, none⟩ = _ := r1
    have r2' : (w.drewN n).cell? ⟨R, 2, none⟩ = _ := r2
    have f2' : (w.drewN n).frozen? ⟨R, 2, none⟩ = _ := f2
    go_wp2_with fail
    go_quiet (fail)
    go_wp2_with fail
    go_ret
    exact ⟨rfl, (HR.out.drewN _).fail, ((GrownL.refl [R] w).drewN' _).trans (gset _ _ _ _)⟩

set_option maxHeartbeats 16000000 in
set_option maxRecDepth 100000 in
theorem gnumber_any (R : Nat) (s : ByteArray) (lo hi : Int) (b : Nat) (w : World) (h : RgAt R s (b, false) w) (hat : b ≤ s.size) (hsx : s.size ≤ 1000000) (l0 : 0 ≤ lo) (l1 : lo ≤ 1048577) (h0 : 0 ≤ hi) (h1 : hi ≤ 1048576) :
    Calls Tryd.prog 115 #[.pointer (some ⟨R, 0, none⟩), .int .i64 lo, .int .i64 hi] w (GnPost R s (numG s.data.toList lo hi (b, false)) w) := by
  have HH := Lib.hid h
  have hsl : s.data.toList.length = s.size := rfl
  have HSL := Lib.hid hsl
  have HG0 := Lib.hid (numG_eq s.data.toList lo hi b)
  generalize numG s.data.toList lo hi (b, false) = Q at *
  obtain ⟨r0, r1, r2⟩ := h.cells
  simp only at r1 r2
  clear h hsl
  go_enter Tryd.func115, Tryd.ntmps115
  go_wp2_with fail
  clear r0 r1 r2
  go_loopg [7] s.size (fun g u wr => ∃ (n : Int) (a : Nat), u = .int .i64 n ∧ 0 ≤ n ∧ n ≤ 1048576 ∧ b ≤ a ∧ a + g = b + s.size ∧ a ≤ s.size ∧ (n ≤ hi) ∧ numGN s.data.toList lo hi b n a = numGN s.data.toList lo hi b 0 b ∧ RgAt R s (a, false) wr ∧ GrownL [R] w wr)
  case atStart => exact ⟨0, b, rfl, by omega, by omega, by omega, by omega, hat, h0, rfl, HH.out, GrownL.refl _ _⟩
  case round =>
    obtain ⟨n, a, rfl, n0, n1, hba, hag, has, hnh, hn, hr, hg⟩ := hrel
    have HG := Lib.hid hg
    have HN := Lib.hid hn
    have HR := Lib.hid hr
    obtain ⟨r0, r1, r2⟩ := hr.cells
    have f1 := hr.frz 1
    have f2 := hr.frz 2
    simp only at r1 r2
    clear hg hn hr
    by_cases hae : a < s.size
    · have hae' : (a : Int) < (s.size : Int) := by omega
      have HB := Lib.hid (byte_at hae)
      by_cases hd : isDig (s[a]'hae) = true
      · obtain ⟨d1, d2⟩ := isDig_iff.1 hd
        have HD := Lib.hid hd
        have hc1 : (48 : Int) ≤ ((s[a]'hae).toNat : Int) := by omega
        have hc2 : ((s[a]'hae).toNat : Int) ≤ 57 := by omega
        have U1 : IntKind.u8.wrap (((s[a]'hae).toNat : Int) - 48) = (((s[a]'hae).toNat : Int) - 48) := IntWalk.u8_in _ (by omega)
        have U2 : IntKind.i64.wrap (((s[a]'hae).toNat : Int) - 48) = (((s[a]'hae).toNat : Int) - 48) := IntWalk.i64_in _ (by omega)
        have U3 : IntKind.i64.wrap (10 * n) = 10 * n := IntWalk.i64_in _ (by omega)
        have U4 : IntKind.i64.wrap (10 * n + (((s[a]'hae).toNat : Int) - 48)) = 10 * n + (((s[a]'hae).toNat : Int) - 48) := IntWalk.i64_in _ (by omega)
        obtain ⟨fb, hfb⟩ : ∃ fb, beginsB (10 * n + (((s[a]'hae).toNat : Int) - 48)) lo hi = fb := ⟨_, rfl⟩
        have CC := Lib.hid fun W => can_any (10 * n + (((s[a]'hae).toNat : Int) - 48)) lo hi W (by omega) (by omega) l0 (by omega) (by omega)
        rw [hfb] at CC
        have HFB : Hid (beginsB (n * 10 + (((s[a]'hae).toNat : Int) - 48)) lo hi = fb) := Lib.hid (by rw [← hfb, Int.mul_comm])
        clear hfb hd
        go_wp2_with fail
        go_quiet (fail)
        go_wp2_with fail
        go_quiet (fail)
        go_wp2_with fail
        refine (CC.out _).mono ?_
        rintro e w4 ⟨rfl, rfl⟩
        cases fb
        · have HF : Hid (Q = (0, a, true)) := Lib.hid (by rw [HG0.out, HN.out.symm.trans (gn_bad HB.out HD.out (.inl HFB.out))]; exact if_pos (.inl rfl))
          go_wp2_with fail
          go_ret
          exact ⟨by rw [HF.out]; rfl, by rw [HF.out]; exact (HR.out.drewN _).fail, (HG.out.drewN' _).trans (gset _ _ _ _)⟩
        · have hle : n * 10 + (((s[a]'hae).toNat : Int) - 48) ≤ hi := by
            rcases beginsB_le HFB.out with h | ⟨h, _⟩ <;> omega
          by_cases hba2 : b < a
          · have hba3 : (b : Int) < (a : Int) := by omega
            by_cases hn0 : n = 0
            · have HF : Hid (Q = (0, a, true)) := Lib.hid (by rw [HG0.out, HN.out.symm.trans (gn_bad HB.out HD.out (.inr ⟨hba2, hn0⟩))]; exact if_pos (.inl rfl))
              have hn0' : (n == 0) = true := beq_iff_eq.2 hn0
              clear hn0
              go_wp2_with fail
              go_ret
              exact ⟨by rw [HF.out]; rfl, by rw [HF.out]; exact (HR.out.drewN _).fail, (HG.out.drewN' _).trans (gset _ _ _ _)⟩
            · have hn0' : (n == 0) = false := beq_eq_false_iff_ne.2 hn0
              have HGO := Lib.hid (gn_go (lo := lo) (hi := hi) (b := b) (n := n) HB.out HD.out (by rw [HFB.out]; intro h; rcases h with h | h; cases h; exact hn0 h.2))
              clear hn0
              go_wp2_with fail
              go_roundg (gk - 1)
              case measure => omega
              case rel => exact ⟨n * 10 + (((s[a]'hae).toNat : Int) - 48), a + 1, by rw [Int.mul_comm n 10], by omega, by omega, by omega, by omega, by omega, hle, HGO.out.symm.trans HN.out, by exact_mod_cast (HR.out.drewN _).move (a + 1), (HG.out.drewN' _).trans (gset _ _ _ _)⟩
          · have hba3 : (a : Int) ≤ (b : Int) := by omega
            have HGO := Lib.hid (gn_go (lo := lo) (hi := hi) (b := b) (n := n) HB.out HD.out (by rw [HFB.out]; intro h; rcases h with h | h; cases h; exact hba2 h.1))
            go_wp2_with fail
            go_roundg (gk - 1)
            case measure => omega
            case rel => exact ⟨n * 10 + (((s[a]'hae).toNat : Int) - 48), a + 1, by rw [Int.mul_comm n 10], by omega, by omega, by omega, by omega, by omega, hle, HGO.out.symm.trans HN.out, by exact_mod_cast (HR.out.drewN _).move (a + 1), (HG.out.drewN' _).trans (gset _ _ _ _)⟩
      · have hd' : isDig (s[a]'hae) = false := by simpa using hd
        have HE : Hid (numGN s.data.toList lo hi b 0 b = (n, a, false)) := Lib.hid (HN.out.symm.trans (gn_no HB.out hd'))
        have hcc : (¬ (48 : Int) ≤ ((s[a]'hae).toNat : Int)) ∨ (48 ≤ ((s[a]'hae).toNat : Int) ∧ ¬ ((s[a]'hae).toNat : Int) ≤ 57) := by
          have h9 : ¬ (48 ≤ (s[a]'hae).toNat ∧ (s[a]'hae).toNat ≤ 57) := fun h => hd (isDig_iff.2 h)
          omega
        clear hd hd'
        have hcc2 : decide ((48 : Int) ≤ ((s[a]'hae).toNat : Int)) = false ∨ (48 ≤ ((s[a]'hae).toNat : Int) ∧ decide (((s[a]'hae).toNat : Int) ≤ 57) = false) := by
          rcases hcc with h | ⟨h, h'⟩
          · exact .inl (decide_eq_false h)
          · exact .inr ⟨h, decide_eq_false h'⟩
        clear hcc
        rcases hcc2 with hc1 | ⟨hc1, hc2⟩
        all_goals
          go_wp2_with fail
          go_quiet (fail)
          by_cases hab : a = b
          · have hab' : ((a : Int) == (b : Int)) = true := beq_iff_eq.2 (by omega)
            have HF : Hid (Q = (0, a, true)) := Lib.hid (by rw [HG0.out, HE.out]; exact if_pos (.inr (.inl hab)))
            clear hab
            go_wp2_with fail
            go_ret
            exact ⟨by rw [HF.out]; rfl, by rw [HF.out]; exact (HR.out.drewN _).fail, (HG.out.drewN' _).trans (gset _ _ _ _)⟩
          · have hab' : ((a : Int) == (b : Int)) = false := beq_eq_false_iff_ne.2 (by omega)
            by_cases hin : lo ≤ n ∧ n ≤ hi
            · have HF : Hid (Q = (n, a, false)) := Lib.hid (by rw [HG0.out, HE.out]; exact if_neg (by intro h; rcases h with h | h | h; cases h; exact hab h; exact h hin))
              have CI := Lib.hid fun W => rin_yes n lo hi W hin.1 hin.2
              clear hin hab
              go_wp2_with fail
              refine (CI.out _).mono ?_
              rintro e w4 ⟨rfl, rfl⟩
              go_wp2_with fail
              go_ret
              exact ⟨by rw [HF.out]; rfl, by rw [HF.out]; exact HR.out.drewN _, HG.out.drewN' _⟩
            · have HF : Hid (Q = (0, a, true)) := Lib.hid (by rw [HG0.out, HE.out]; exact if_pos (.inr (.inr hin)))
              have CI := Lib.hid fun W => rin_no n lo hi W hin
              clear hin hab
              go_wp2_with fail
              refine (CI.out _).mono ?_
              rintro e w4 ⟨rfl, rfl⟩
              go_wp2_with fail
              go_ret
              exact ⟨by rw [HF.out]; rfl, by rw [HF.out]; exact (HR.out.drewN _).fail, (HG.out.drewN' _).trans (gset _ _ _ _)⟩
    · have hae' : (s.size : Int) ≤ (a : Int) := by omega
      have HE : Hid (numGN s.data.toList lo hi b 0 b = (n, a, false)) := Lib.hid (HN.out.symm.trans (gn_end (by rw [HSL.out]; omega)))
      go_wp2_with fail
      go_quiet (fail)
      by_cases hab : a = b
      · have hab' : ((a : Int) == (b : Int)) = true := beq_iff_eq.2 (by omega)
        have HF : Hid (Q = (0, a, true)) := Lib.hid (by rw [HG0.out, HE.out]; exact if_pos (.inr (.inl hab)))
        clear hab
        go_wp2_with fail
        go_ret
        exact ⟨by rw [HF.out]; rfl, by rw [HF.out]; exact (HR.out.drewN _).fail, (HG.out.drewN' _).trans (gset _ _ _ _)⟩
      · have hab' : ((a : Int) == (b : Int)) = false := beq_eq_false_iff_ne.2 (by omega)
        by_cases hin : lo ≤ n ∧ n ≤ hi
        · have HF : Hid (Q = (n, a, false)) := Lib.hid (by rw [HG0.out, HE.out]; exact if_neg (by intro h; rcases h with h | h | h; cases h; exact hab h; exact h hin))
          have CI := Lib.hid fun W => rin_yes n lo hi W hin.1 hin.2
          clear hin hab
          go_wp2_with fail
          refine (CI.out _).mono ?_
          rintro e w4 ⟨rfl, rfl⟩
          go_wp2_with fail
          go_ret
          exact ⟨by rw [HF.out]; rfl, by rw [HF.out]; exact HR.out.drewN _, HG.out.drewN' _⟩
        · have HF : Hid (Q = (0, a, true)) := Lib.hid (by rw [HG0.out, HE.out]; exact if_pos (.inr (.inr hin)))
          have CI := Lib.hid fun W => rin_no n lo hi W hin
          clear hin hab
          go_wp2_with fail
          refine (CI.out _).mono ?_
          rintro e w4 ⟨rfl, rfl⟩
          go_wp2_with fail
          go_ret
          exact ⟨by rw [HF.out]; rfl, by rw [HF.out]; exact (HR.out.drewN _).fail, (HG.out.drewN' _).trans (gset _ _ _ _)⟩
end Go.Proofs.YtlhgpeelenelbaaDoor

/- What the specification's Parse keeps between two parts. -/
namespace Go.Proofs.YtlhgpeelenelbaaDoor
open Go.RowKit

theorem numGL_le (s : List UInt8) (lo hi : Int) (b : Nat) : ∀ (f : Nat) (n : Int) (a : Nat), a ≤ s.length → a ≤ (numGL s lo hi b f n a).2.1 ∧ (numGL s lo hi b f n a).2.1 ≤ s.length
  | 0, _, _, h => ⟨Nat.le_refl _, h⟩
  | f + 1, n, a, h => by
    unfold numGL
    cases hc : s[a]? with
    | none => exact ⟨Nat.le_refl _, h⟩
    | some c =>
      have hl := (List.getElem?_eq_some_iff.1 hc).1
      simp only
      split
      · split
        · exact ⟨Nat.le_refl _, h⟩
        · have := numGL_le s lo hi b f (n * 10 + ((c.toNat : Int) - 48)) (a + 1) (by omega)
          exact ⟨by omega, this.2⟩
      · exact ⟨Nat.le_refl _, h⟩
theorem numG_cases (s : List UInt8) (lo hi : Int) (st : Nat × Bool) (h : st.1 ≤ s.length) : st.1 ≤ (numG s lo hi st).2.1 ∧ (numG s lo hi st).2.1 ≤ s.length ∧ (((numG s lo hi st).1 = 0 ∧ (numG s lo hi st).2.2 = true) ∨ (lo ≤ (numG s lo hi st).1 ∧ (numG s lo hi st).1 ≤ hi ∧ (numG s lo hi st).2.2 = false ∧ st.2 = false)) := by
  obtain ⟨a, b⟩ := st
  cases b with
  | true => exact ⟨Nat.le_refl _, h, .inl ⟨rfl, rfl⟩⟩
  | false =>
    have hl := numGL_le s lo hi a (s.length - a) 0 a h
    have e : (numGN s lo hi a 0 a) = numGL s lo hi a (s.length - a) 0 a := rfl
    rw [← e] at hl
    rw [numG_eq]
    split
    · exact ⟨hl.1, hl.2, .inl ⟨rfl, rfl⟩⟩
    · rename_i hn
      have h3 : lo ≤ (numGN s lo hi a 0 a).1 ∧ (numGN s lo hi a 0 a).1 ≤ hi := Classical.byContradiction fun k => hn (.inr (.inr k))
      exact ⟨hl.1, hl.2, .inr ⟨h3.1, h3.2, rfl, rfl⟩⟩
theorem gnumber_all (R : Nat) (s : ByteArray) (lo hi : Int) (st : Nat × Bool) (w : World) (h : RgAt R s st w) (hat : st.1 ≤ s.size) (hsx : s.size ≤ 1000000) (hb : st.2 = false → 0 ≤ lo ∧ lo ≤ 1048577 ∧ 0 ≤ hi ∧ hi ≤ 1048576) :
    Calls Tryd.prog 115 #[.pointer (some ⟨R, 0, none⟩), .int .i64 lo, .int .i64 hi] w (GnPost R s (numG s.data.toList lo hi st) w) := by
  obtain ⟨a, b⟩ := st
  cases b with
  | true => exact gnumber_bad R s lo hi a w h (by simp only at hat; omega)
  | false =>
    obtain ⟨q1, q2, q3, q4⟩ := hb rfl
    exact gnumber_any R s lo hi a w h hat hsx q1 q2 q3 q4

/-- Between two parts: the result, the reader, the set so far. -/
structure PG (w : World) (s : ByteArray) (v0 v1 : Value) (ts : List T3) (ss : List S2) (st : Nat × Bool) (W : World) : Prop where
  rd : RgAt (w.heap.size + 1) s st W
  res : W.heap[w.heap.size]? = some (.cells #[.slice none 0 0, .slice none 0 0, .int .i64 0, .int .i64 0] 75 (0, 0))
  set : W.heap[w.heap.size + 1 + 1]? = some (.cells #[v0, v1] 25 (0, 0))
  ot : W.ownsRow (w.heap.size + 3) 27 3 v0 ts.length (rowA ts)
  os : W.ownsRow (w.heap.size + 3) 49 2 v1 ss.length (cells2 ss)
  bel : Below w.heap.size w W
  siz : w.heap.size + 3 ≤ W.heap.size
section
variable {w W w4 w5 : World} {s : ByteArray} {v0 v1 v' : Value} {ts : List T3} {ss : List S2} {st st' : Nat × Bool} {o : Obj}
theorem PG.c0 (h : PG w s v0 v1 ts ss st W) : W.cell? ⟨w.heap.size + 1 + 1, 0, none⟩ = some v0 := by simp [World.cell?, h.set]
theorem PG.c1 (h : PG w s v0 v1 ts ss st W) : W.cell? ⟨w.heap.size + 1 + 1, 1, none⟩ = some v1 := by simp [World.cell?, h.set]
theorem PG.f (h : PG w s v0 v1 ts ss st W) (i : Nat) : W.frozen? ⟨w.heap.size + 1 + 1, i, none⟩ = false := by simp [World.frozen?, h.set]
theorem PG.r (h : PG w s v0 v1 ts ss st W) : W.cell? ⟨w.heap.size, 0, none⟩ = some (.slice none 0 0) ∧ W.cell? ⟨w.heap.size, 1, none⟩ = some (.slice none 0 0) ∧ W.cell? ⟨w.heap.size, 2, none⟩ = some (.int .i64 0) ∧ W.cell? ⟨w.heap.size, 3, none⟩ = some (.int .i64 0) := by simp [World.cell?, h.res]
theorem PG.rf (h : PG w s v0 v1 ts ss st W) (i : Nat) : W.frozen? ⟨w.heap.size, i, none⟩ = false := by simp [World.frozen?, h.res]
theorem PG.keep (h : PG w s v0 v1 ts ss st W) {bs : List Nat} (hr : RgAt (w.heap.size + 1) s st' w4) (hg : GrownL bs W w4) (hb : ∀ b ∈ bs, b = w.heap.size + 1 ∨ (w.heap.size + 3 ≤ b ∧ v0.ownBlock ≠ some b ∧ v1.ownBlock ≠ some b)) : PG w s v0 v1 ts ss st' w4 := by
  have hs := h.siz
  have nb : ∀ k, k = w.heap.size ∨ k = w.heap.size + 1 + 1 → k ∉ bs := fun k hk hm => by have := hb k hm; omega
  exact ⟨hr, (hg.block _ (by omega) (nb _ (.inl rfl))).trans h.res, (hg.block _ (by omega) (nb _ (.inr rfl))).trans h.set,
    ownsRow_grownL h.ot hg (fun g e hm => by rcases hb g hm with q | q; have := (World.ownsRow.lt h.ot g e).1; omega; exact q.2.1 e),
    ownsRow_grownL h.os hg (fun g e hm => by rcases hb g hm with q | q; have := (World.ownsRow.lt h.os g e).1; omega; exact q.2.2 e),
    h.bel.trans (hg.below (fun b hm => by have := hb b hm; omega) (by omega)), by have := hg.size; omega⟩
theorem PG.call (h : PG w s v0 v1 ts ss st W) (hr : RgAt (w.heap.size + 1) s st' w4) (hg : GrownL [w.heap.size + 1] W w4) : PG w s v0 v1 ts ss st' w4 :=
  h.keep hr hg (fun b hm => .inl (by simpa using hm))
theorem PG.alloc (h : PG w s v0 v1 ts ss st W) (o : Obj) : PG w s v0 v1 ts ss st (W.alloc o) :=
  h.keep (bs := []) (h.rd.grown (bs := []) (GrownL.of_below ((Below.refl _ _).alloc (Nat.le_refl _) o)) (by simp)) (GrownL.of_below ((Below.refl _ _).alloc (Nat.le_refl _) o)) (fun b hm => by cases hm)
theorem PG.turn (h : PG w s v0 v1 ts ss st W) {x : T3} (hgrow : W.grownBy w5 v0.ownBlock)
    (hown : w5.ownsRow (w.heap.size + 3) 27 3 v' (ts.length + 1) (rowA ts ++ [.int .i64 x.1, .int .i64 x.2.1, .int .i64 x.2.2])) :
    PG w s v' v1 (ts ++ [x]) ss st (w5.setCell ⟨w.heap.size + 1 + 1, 0, none⟩ v') := by
  have hs := h.siz
  have h5 : GrownL v0.ownBlock.toList W w5 := GrownL.of_row hgrow
  have hlt : ∀ g ∈ v0.ownBlock.toList, w.heap.size + 3 ≤ g := fun g hg => (World.ownsRow.lt h.ot g (by simpa using hg)).1
  have hS : GrownL [w.heap.size + 1 + 1] w5 (w5.setCell ⟨w.heap.size + 1 + 1, 0, none⟩ v') := GrownL.set _ _ _ (by simp)
  have nb : ∀ k, k < w.heap.size + 3 → k ∉ v0.ownBlock.toList := fun k hk hm => by have := hlt k hm; omega
  have nS : ∀ k, k ≠ w.heap.size + 1 + 1 → k ∉ [w.heap.size + 1 + 1] := fun k hk hm => by simp at hm; omega
  have hz5 := h5.size
  refine ⟨?_, ?_, ?_, ?_, ?_, ?_, ?_⟩
  · exact (h.rd.grown h5 (nb _ (by omega))).grown hS (nS _ (by omega))
  · exact (hS.block _ (by omega) (nS _ (by omega))).trans ((h5.block _ (by omega) (nb _ (by omega))).trans h.res)
  · exact set2_0 ((h5.block _ (by omega) (nb _ (by omega))).trans h.set)
  · have := ownsRow_grownL hown hS (fun g e => nS g (by have := (World.ownsRow.lt hown g e).1; omega))
    rw [rowA_snoc, List.length_append]
    exact this
  · exact ownsRow_grownL (ownsRow_grownL h.os h5 (fun g e hm => own_ne h.ot h.os (by simpa using hm) e)) hS (fun g e => nS g (by have := (World.ownsRow.lt h.os g e).1; omega))
  · exact (h.bel.trans (h5.below (fun b hb => by have := hlt b hb; omega) (by omega))).setCell (p := ⟨w.heap.size + 1 + 1, 0, none⟩) (by show w.heap.size ≤ w.heap.size + 2; omega) _
  · have := hS.size; omega
theorem PG.span (h : PG w s v0 v1 ts ss st W) {x : S2} (hgrow : W.grownBy w5 v1.ownBlock)
    (hown : w5.ownsRow (w.heap.size + 3) 49 2 v' (ss.length + 1) (cells2 ss ++ [.int .i64 x.1, .int .i64 x.2])) :
    PG w s v0 v' ts (ss ++ [x]) st (w5.setCell ⟨w.heap.size + 1 + 1, 1, none⟩ v') := by
  have hs := h.siz
  have h5 : GrownL v1.ownBlock.toList W w5 := GrownL.of_row hgrow
  have hlt : ∀ g ∈ v1.ownBlock.toList, w.heap.size + 3 ≤ g := fun g hg => (World.ownsRow.lt h.os g (by simpa using hg)).1
  have hS : GrownL [w.heap.size + 1 + 1] w5 (w5.setCell ⟨w.heap.size + 1 + 1, 1, none⟩ v') := GrownL.set _ _ _ (by simp)
  have nb : ∀ k, k < w.heap.size + 3 → k ∉ v1.ownBlock.toList := fun k hk hm => by have := hlt k hm; omega
  have nS : ∀ k, k ≠ w.heap.size + 1 + 1 → k ∉ [w.heap.size + 1 + 1] := fun k hk hm => by simp at hm; omega
  have hz5 := h5.size
  refine ⟨?_, ?_, ?_, ?_, ?_, ?_, ?_⟩
  · exact (h.rd.grown h5 (nb _ (by omega))).grown hS (nS _ (by omega))
  · exact (hS.block _ (by omega) (nS _ (by omega))).trans ((h5.block _ (by omega) (nb _ (by omega))).trans h.res)
  · exact set2_1 ((h5.block _ (by omega) (nb _ (by omega))).trans h.set)
  · exact ownsRow_grownL (ownsRow_grownL h.ot h5 (fun g e hm => own_ne h.ot h.os e (by simpa using hm))) hS (fun g e => nS g (by have := (World.ownsRow.lt h.ot g e).1; omega))
  · have := ownsRow_grownL hown hS (fun g e => nS g (by have := (World.ownsRow.lt hown g e).1; omega))
    rw [cells2_snoc, List.length_append]
    exact this
  · exact (h.bel.trans (h5.below (fun b hb => by have := hlt b hb; omega) (by omega))).setCell (p := ⟨w.heap.size + 1 + 1, 1, none⟩) (by show w.heap.size ≤ w.heap.size + 2; omega) _
  · have := hS.size; omega
/-- At the start. -/
theorem PG.new (w : World) (s : ByteArray) : PG w s (.slice none 0 0) (.slice none 0 0) [] [] (0, false) (((w.alloc (.cells #[.slice none 0 0, .slice none 0 0, .int .i64 0, .int .i64 0] 75)).alloc (.cells #[.string s, .int .i64 0, .bool false] 143)).alloc (.cells #[.slice none 0 0, .slice none 0 0] 25)) := by
  refine ⟨?_, ?_, ?_, World.ownsRow_nil _ _ _ _, World.ownsRow_nil _ _ _ _, ?_, by simp⟩
  · refine (Below.heap_alloc _ _ _ (by simp)).trans ?_
    have := World.alloc_heap_new (w.alloc (.cells #[.slice none 0 0, .slice none 0 0, .int .i64 0, .int .i64 0] 75)) (.cells #[.string s, .int .i64 0, .bool false] 143)
    rwa [World.size_alloc] at this
  · exact (Below.heap_alloc _ _ _ (by simp; omega)).trans ((Below.heap_alloc _ _ _ (by simp)).trans (World.alloc_heap_new w _))
  · have := World.alloc_heap_new ((w.alloc (.cells #[.slice none 0 0, .slice none 0 0, .int .i64 0, .int .i64 0] 75)).alloc (.cells #[.string s, .int .i64 0, .bool false] 143)) (.cells #[.slice none 0 0, .slice none 0 0] 25)
    rwa [World.size_alloc, World.size_alloc] at this
  · exact (((Below.refl w.heap.size w).alloc (Nat.le_refl _) _).alloc (by simp) _).alloc (by simp; omega) _
end
/-- Within a part: a block that holds what was read of it. -/
structure TG (w : World) (s : ByteArray) (v0 v1 : Value) (ts : List T3) (ss : List S2) (st : Nat × Bool) (bt : Nat) (ty : TypeId) (cs : Array Value) (W : World) : Prop where
  pg : PG w s v0 v1 ts ss st W
  t : W.heap[bt]? = some (.cells cs ty (0, 0))
  lb : w.heap.size + 3 ≤ bt
  n0 : v0.ownBlock ≠ some bt
  n1 : v1.ownBlock ≠ some bt
section
variable {w W w4 w5 : World} {s : ByteArray} {v0 v1 v' : Value} {ts : List T3} {ss : List S2} {st st' : Nat × Bool} {o : Obj} {bt : Nat} {ty : TypeId} {cs cs' : Array Value}
theorem TG.call (h : TG w s v0 v1 ts ss st bt ty cs W) (hr : RgAt (w.heap.size + 1) s st' w4) (hg : GrownL [w.heap.size + 1] W w4) : TG w s v0 v1 ts ss st' bt ty cs w4 :=
  ⟨h.pg.call hr hg, (hg.block _ (Array.getElem?_eq_some_iff.1 h.t).1 (by have := h.lb; simp; omega)).trans h.t, h.lb, h.n0, h.n1⟩
theorem TG.put (h : TG w s v0 v1 ts ss st bt ty cs W) (i : Nat) (v : Value) (hc : (W.setCell ⟨bt, i, none⟩ v).heap[bt]? = some (.cells cs' ty (0, 0))) : TG w s v0 v1 ts ss st bt ty cs' (W.setCell ⟨bt, i, none⟩ v) := by
  have hg : GrownL [bt] W (W.setCell ⟨bt, i, none⟩ v) := GrownL.set _ _ _ (by simp)
  have := h.lb
  exact ⟨h.pg.keep (h.pg.rd.grown hg (by simp; omega)) hg (fun b hm => by simp at hm; subst hm; exact .inr ⟨h.lb, h.n0, h.n1⟩), hc, h.lb, h.n0, h.n1⟩
theorem TG.alloc (h : TG w s v0 v1 ts ss st bt ty cs W) (o : Obj) : TG w s v0 v1 ts ss st bt ty cs (W.alloc o) :=
  ⟨h.pg.alloc o, (Below.heap_alloc _ _ _ (Array.getElem?_eq_some_iff.1 h.t).1).trans h.t, h.lb, h.n0, h.n1⟩
theorem TG.new (h : PG w s v0 v1 ts ss st W) (cs : Array Value) (ty : TypeId) : TG w s v0 v1 ts ss st W.heap.size ty cs (W.alloc (.cells cs ty)) :=
  ⟨h.alloc _, World.alloc_heap_new W _, h.siz, fun e => by have := (World.ownsRow.lt h.ot _ e).2; omega, fun e => by have := (World.ownsRow.lt h.os _ e).2; omega⟩
theorem TG.cell (h : TG w s v0 v1 ts ss st bt ty cs W) (i : Nat) : W.cell? ⟨bt, i, none⟩ = cs[i]? := heap_cell h.t i
theorem TG.frz (h : TG w s v0 v1 ts ss st bt ty cs W) (i : Nat) : W.frozen? ⟨bt, i, none⟩ = false := heap_frozen h.t i
end
end Go.Proofs.YtlhgpeelenelbaaDoor
