/- Contracts of sort.Search, lowest, by closures. -/
import Derived.Test.YtkoacclbempmdaaGZC
namespace Go.Proofs.Ytkoacclbempmdaa
open Go.RowKit

/-- What Search finds. -/
def SearchR (n : Nat) (pr : Nat → Bool) (Inv : World → Prop) (e : Ending) (w' : World) : Prop := ∃ i : Nat, e = .returned (.int .i64 i) ∧ i ≤ n ∧ (0 < i → pr (i - 1) = false) ∧ (i < n → pr i = true) ∧ Inv w'
def SrI (pr : Nat → Bool) (n i j : Nat) : Prop := (0 < i → pr (i - 1) = false) ∧ (j < n → pr j = true)

/-- What lowest says. -/
def LowR (n gb : Nat) (pr : Nat → Bool) (St : World → Prop) (w : World) (e : Ending) (w' : World) : Prop := ∃ i : Nat, i ≤ n + 1 ∧ (0 < i → pr (i - 1) = false) ∧ (i < n + 1 → pr i = true) ∧ e = .returned (.tuple #[.int .i64 (if n < i then 0 else (i : Int)), .int .i64 (if n < i then 5 else 0)]) ∧ GrownL [gb] w w' ∧ St w'

set_option maxHeartbeats 8000000 in
set_option maxRecDepth 1000000 in
theorem searchOpen_any (n : Nat) (bs bp bw bn : Nat) (pr : Nat → Bool) (Inv : World → Prop) (w : World) (hn : n ≤ 4000000) (h0 : Inv w)
  (hcl : ∀ k W, k < n → Inv W → Calls Try.prog 95 #[.int .i64 (k : Nat), .pointer (some ⟨bs, 0, none⟩), .pointer (some ⟨bp, 0, none⟩), .pointer (some ⟨bw, 0, none⟩), .pointer (some ⟨bn, 0, none⟩)] W fun e w' => e = .returned (.bool (pr k)) ∧ Inv w') :
  Calls Try.prog 135 #[.int .i64 n, .func (.func 95) #[] #[.pointer (some ⟨bs, 0, none⟩), .pointer (some ⟨bp, 0, none⟩), .pointer (some ⟨bw, 0, none⟩), .pointer (some ⟨bn, 0, none⟩)]] w (SearchR n pr Inv) := by
 have HCL := Lib.hid hcl
 have H0 := Lib.hid h0
 clear hcl h0
 go_enter Try.func135, Try.ntmps135
 go_wp2_with fail
 go_loopw [5, 6] (fun a b wr => ∃ i j : Nat, a = .int .i64 i ∧ b = .int .i64 j ∧ i ≤ j ∧ j ≤ n ∧ SrI pr n i j ∧ Inv wr) (fun a b _ => (intOf b - intOf a).toNat)
 case atStart => exact ⟨0, n, rfl, rfl, by omega, by omega, ⟨fun h => by omega, fun h => by omega⟩, H0.out⟩
 case round =>
  obtain ⟨i, j, rfl, rfl, hij, hjn, hsr, hinv⟩ := hrel
  have HSR := Lib.hid hsr
  have HI := Lib.hid hinv
  clear hsr hinv
  by_cases hlt : i < j
  ·have hi0 : (i : Int) < (j : Int) := by omega
   have hjb : (j : Int) ≤ 4000000 := by omega
   have hi1 : (0 : Int) ≤ (i : Int) := by omega
   obtain ⟨m, hm⟩ : ∃ m : Nat, (i + j) / 2 = m := ⟨_, rfl⟩
   have hm1 : i ≤ m := by omega
   have hm2 : m < j := by omega
   have HM := Lib.hid hm
   clear hm
   go_wp2_with fail
   rw [show ((i : Int) + (j : Int)) / 2 = (m : Int) by have := HM.out; omega]
   refine (HCL.out m _ (by omega) HI.out).mono ?_
   rintro e w2 ⟨rfl, hI2⟩
   have HI2 := Lib.hid hI2
   obtain ⟨b, hb⟩ : ∃ b, pr m = b := ⟨_, rfl⟩
   have HB := Lib.hid hb
   rw [hb]
   clear hb hI2
   cases b
   ·go_wp2_with fail
    go_roundw
    case rel => exact ⟨m + 1, j, by go_num, rfl, by omega, hjn, ⟨fun _ => HB.out, HSR.out.2⟩, HI2.out⟩
    case measure => show ((j : Int) - ((m : Int) + 1)).toNat < ((j : Int) - (i : Int)).toNat; omega
   ·go_wp2_with fail
    go_roundw
    case rel => exact ⟨i, m, rfl, rfl, hm1, by omega, ⟨HSR.out.1, fun _ => HB.out⟩, HI2.out⟩
    case measure => show ((m : Int) - (i : Int)).toNat < ((j : Int) - (i : Int)).toNat; omega
  ·have hi0 : (j : Int) ≤ (i : Int) := by omega
   obtain rfl : i = j := by omega
   go_wp2_with fail
   go_ret
   exact ⟨i, rfl, hjn, HSR.out.1, HSR.out.2, HI.out⟩

set_option maxHeartbeats 8000000 in
set_option maxRecDepth 1000000 in
theorem lowestOpen_any (n gb : Nat) (bs bp bw bn : Nat) (pr : Nat → Bool) (St : World → Prop) (w : World) (hn : n ≤ 3000000) (hgb : gb < w.heap.size) (h0 : St w) (hst : ∀ W W', St W → Below W.heap.size W W' → St W')
  (hcl : ∀ k W, k ≤ n → GrownL [gb] w W → St W → Calls Try.prog 95 #[.int .i64 (k : Nat), .pointer (some ⟨bs, 0, none⟩), .pointer (some ⟨bp, 0, none⟩), .pointer (some ⟨bw, 0, none⟩), .pointer (some ⟨bn, 0, none⟩)] W fun e w' => e = .returned (.bool (pr k)) ∧ GrownL [gb] W w' ∧ St w') :
  Calls Try.prog 93 #[.agg #[.int .i64 0, .int .i64 n], .func (.func 95) #[] #[.pointer (some ⟨bs, 0, none⟩), .pointer (some ⟨bp, 0, none⟩), .pointer (some ⟨bw, 0, none⟩), .pointer (some ⟨bn, 0, none⟩)]] w (LowR n gb pr St w) := by
 obtain ⟨W1, hW1⟩ : ∃ W1, w.alloc (.cells #[.int .i64 0, .int .i64 n] 40) = W1 := ⟨_, rfl⟩
 have b1 : Below w.heap.size w W1 := by rw [← hW1]; exact (Below.refl _ _).alloc (Nat.le_refl _) _
 have g1 : GrownL [gb] w W1 := GrownL.of_below b1
 have c1 : W1.cell? ⟨w.heap.size, 1, none⟩ = some (.int .i64 n) := by rw [← hW1]; simp [go_sem]
 have C := Lib.hid (searchOpen_any (n + 1) bs bp bw bn pr (fun W => GrownL [gb] W1 W ∧ St W) W1 (by omega) ⟨GrownL.refl _ _, hst _ _ h0 b1⟩ (fun k W hk hI => (hcl k W (by omega) (g1.trans hI.1) hI.2).mono fun e w' ⟨he, hg, hs⟩ => ⟨he, hI.1.trans hg, hs⟩))
 have G1 := Lib.hid g1
 have HW1 := Lib.hid hW1
 have HC1 := Lib.hid c1
 have x0 : (w.alloc (.cells #[.int .i64 0, .int .i64 n] 40)).cell? ⟨w.heap.size, 1, none⟩ = some (.int .i64 n) := by rw [hW1]; exact c1
 have hn0 : (n : Int) ≤ 3000000 := by omega
 clear hcl h0 hst b1 g1 hW1 c1
 go_enter Try.func93, Try.ntmps93
 go_wp2_with fail
 rw [HW1.out]
 have C := C.out
 rw [show ((n + 1 : Nat) : Int) = (n : Int) + 1 by omega] at C
 refine C.mono ?_
 rintro e w2 ⟨i, rfl, hi, h1, h2, hg, hs⟩
 have HR := Lib.hid (And.intro hi (And.intro h1 h2))
 have HG := Lib.hid (G1.out.trans hg)
 have HS := Lib.hid hs
 have x1 : w2.cell? ⟨w.heap.size, 1, none⟩ = some (.int .i64 n) := hg.cell HC1.out (by simp; omega)
 clear C hi h1 h2 hg hs x0
 by_cases hin : n < i
 ·have hin0 : (n : Int) < (i : Int) := by omega
  go_wp2_with fail
  refine bodyPost_ret (results_tmp2 rfl _ _ _) rfl ?_
  exact ⟨i, HR.out.1, HR.out.2.1, HR.out.2.2, by rw [if_pos hin, if_pos hin]; rfl, HG.out, HS.out⟩
 ·have hin0 : (i : Int) ≤ (n : Int) := by omega
  go_wp2_with fail
  refine bodyPost_ret (results_tmp2 rfl _ _ _) rfl ?_
  exact ⟨i, HR.out.1, HR.out.2.1, HR.out.2.2, by rw [if_neg hin, if_neg hin]; rfl, HG.out, HS.out⟩

set_option maxHeartbeats 8000000 in
set_option maxRecDepth 1000000 in
theorem searchSend_any (n : Nat) (bs bh bw bp bn : Nat) (pr : Nat → Bool) (Inv : World → Prop) (w : World) (hn : n ≤ 4000000) (h0 : Inv w)
  (hcl : ∀ k W, k < n → Inv W → Calls Try.prog 98 #[.int .i64 (k : Nat), .pointer (some ⟨bs, 0, none⟩), .pointer (some ⟨bh, 0, none⟩), .pointer (some ⟨bw, 0, none⟩), .pointer (some ⟨bp, 0, none⟩), .pointer (some ⟨bn, 0, none⟩)] W fun e w' => e = .returned (.bool (pr k)) ∧ Inv w') :
  Calls Try.prog 135 #[.int .i64 n, .func (.func 98) #[] #[.pointer (some ⟨bs, 0, none⟩), .pointer (some ⟨bh, 0, none⟩), .pointer (some ⟨bw, 0, none⟩), .pointer (some ⟨bp, 0, none⟩), .pointer (some ⟨bn, 0, none⟩)]] w (SearchR n pr Inv) := by
 have HCL := Lib.hid hcl
 have H0 := Lib.hid h0
 clear hcl h0
 go_enter Try.func135, Try.ntmps135
 go_wp2_with fail
 go_loopw [5, 6] (fun a b wr => ∃ i j : Nat, a = .int .i64 i ∧ b = .int .i64 j ∧ i ≤ j ∧ j ≤ n ∧ SrI pr n i j ∧ Inv wr) (fun a b _ => (intOf b - intOf a).toNat)
 case atStart => exact ⟨0, n, rfl, rfl, by omega, by omega, ⟨fun h => by omega, fun h => by omega⟩, H0.out⟩
 case round =>
  obtain ⟨i, j, rfl, rfl, hij, hjn, hsr, hinv⟩ := hrel
  have HSR := Lib.hid hsr
  have HI := Lib.hid hinv
  clear hsr hinv
  by_cases hlt : i < j
  ·have hi0 : (i : Int) < (j : Int) := by omega
   have hjb : (j : Int) ≤ 4000000 := by omega
   have hi1 : (0 : Int) ≤ (i : Int) := by omega
   obtain ⟨m, hm⟩ : ∃ m : Nat, (i + j) / 2 = m := ⟨_, rfl⟩
   have hm1 : i ≤ m := by omega
   have hm2 : m < j := by omega
   have HM := Lib.hid hm
   clear hm
   go_wp2_with fail
   rw [show ((i : Int) + (j : Int)) / 2 = (m : Int) by have := HM.out; omega]
   refine (HCL.out m _ (by omega) HI.out).mono ?_
   rintro e w2 ⟨rfl, hI2⟩
   have HI2 := Lib.hid hI2
   obtain ⟨b, hb⟩ : ∃ b, pr m = b := ⟨_, rfl⟩
   have HB := Lib.hid hb
   rw [hb]
   clear hb hI2
   cases b
   ·go_wp2_with fail
    go_roundw
    case rel => exact ⟨m + 1, j, by go_num, rfl, by omega, hjn, ⟨fun _ => HB.out, HSR.out.2⟩, HI2.out⟩
    case measure => show ((j : Int) - ((m : Int) + 1)).toNat < ((j : Int) - (i : Int)).toNat; omega
   ·go_wp2_with fail
    go_roundw
    case rel => exact ⟨i, m, rfl, rfl, hm1, by omega, ⟨HSR.out.1, fun _ => HB.out⟩, HI2.out⟩
    case measure => show ((m : Int) - (i : Int)).toNat < ((j : Int) - (i : Int)).toNat; omega
  ·have hi0 : (j : Int) ≤ (i : Int) := by omega
   obtain rfl : i = j := by omega
   go_wp2_with fail
   go_ret
   exact ⟨i, rfl, hjn, HSR.out.1, HSR.out.2, HI.out⟩

set_option maxHeartbeats 8000000 in
set_option maxRecDepth 1000000 in
theorem lowestSend_any (n gb : Nat) (bs bh bw bp bn : Nat) (pr : Nat → Bool) (St : World → Prop) (w : World) (hn : n ≤ 3000000) (hgb : gb < w.heap.size) (h0 : St w) (hst : ∀ W W', St W → Below W.heap.size W W' → St W')
  (hcl : ∀ k W, k ≤ n → GrownL [gb] w W → St W → Calls Try.prog 98 #[.int .i64 (k : Nat), .pointer (some ⟨bs, 0, none⟩), .pointer (some ⟨bh, 0, none⟩), .pointer (some ⟨bw, 0, none⟩), .pointer (some ⟨bp, 0, none⟩), .pointer (some ⟨bn, 0, none⟩)] W fun e w' => e = .returned (.bool (pr k)) ∧ GrownL [gb] W w' ∧ St w') :
  Calls Try.prog 93 #[.agg #[.int .i64 0, .int .i64 n], .func (.func 98) #[] #[.pointer (some ⟨bs, 0, none⟩), .pointer (some ⟨bh, 0, none⟩), .pointer (some ⟨bw, 0, none⟩), .pointer (some ⟨bp, 0, none⟩), .pointer (some ⟨bn, 0, none⟩)]] w (LowR n gb pr St w) := by
 obtain ⟨W1, hW1⟩ : ∃ W1, w.alloc (.cells #[.int .i64 0, .int .i64 n] 40) = W1 := ⟨_, rfl⟩
 have b1 : Below w.heap.size w W1 := by rw [← hW1]; exact (Below.refl _ _).alloc (Nat.le_refl _) _
 have g1 : GrownL [gb] w W1 := GrownL.of_below b1
 have c1 : W1.cell? ⟨w.heap.size, 1, none⟩ = some (.int .i64 n) := by rw [← hW1]; simp [go_sem]
 have C := Lib.hid (searchSend_any (n + 1) bs bh bw bp bn pr (fun W => GrownL [gb] W1 W ∧ St W) W1 (by omega) ⟨GrownL.refl _ _, hst _ _ h0 b1⟩ (fun k W hk hI => (hcl k W (by omega) (g1.trans hI.1) hI.2).mono fun e w' ⟨he, hg, hs⟩ => ⟨he, hI.1.trans hg, hs⟩))
 have G1 := Lib.hid g1
 have HW1 := Lib.hid hW1
 have HC1 := Lib.hid c1
 have x0 : (w.alloc (.cells #[.int .i64 0, .int .i64 n] 40)).cell? ⟨w.heap.size, 1, none⟩ = some (.int .i64 n) := by rw [hW1]; exact c1
 have hn0 : (n : Int) ≤ 3000000 := by omega
 clear hcl h0 hst b1 g1 hW1 c1
 go_enter Try.func93, Try.ntmps93
 go_wp2_with fail
 rw [HW1.out]
 have C := C.out
 rw [show ((n + 1 : Nat) : Int) = (n : Int) + 1 by omega] at C
 refine C.mono ?_
 rintro e w2 ⟨i, rfl, hi, h1, h2, hg, hs⟩
 have HR := Lib.hid (And.intro hi (And.intro h1 h2))
 have HG := Lib.hid (G1.out.trans hg)
 have HS := Lib.hid hs
 have x1 : w2.cell? ⟨w.heap.size, 1, none⟩ = some (.int .i64 n) := hg.cell HC1.out (by simp; omega)
 clear C hi h1 h2 hg hs x0
 by_cases hin : n < i
 ·have hin0 : (n : Int) < (i : Int) := by omega
  go_wp2_with fail
  refine bodyPost_ret (results_tmp2 rfl _ _ _) rfl ?_
  exact ⟨i, HR.out.1, HR.out.2.1, HR.out.2.2, by rw [if_pos hin, if_pos hin]; rfl, HG.out, HS.out⟩
 ·have hin0 : (i : Int) ≤ (n : Int) := by omega
  go_wp2_with fail
  refine bodyPost_ret (results_tmp2 rfl _ _ _) rfl ?_
  exact ⟨i, HR.out.1, HR.out.2.1, HR.out.2.2, by rw [if_neg hin, if_neg hin]; rfl, HG.out, HS.out⟩

end Go.Proofs.Ytkoacclbempmdaa

/- Contracts of the closures of Open and Send. -/
namespace Go.Proofs.Ytkoacclbempmdaa
open Go.RowKit

set_option maxHeartbeats 8000000 in
set_option maxRecDepth 1000000 in
theorem open1_any (bs bp bw bn gb : Nat) (w0 W : World) (A : Option Addr) (c : Nat) (ws : Wk) (R1 _B1 K1 L1 : Option Addr) (r1 _b1 k1 l1 gc base : Nat) (s : Wa) (j : Nat) (k m want : Int) (h : RK w0.heap.size (.slice A ws.length c) ws w0) (hb : Below w0.heap.size w0 W) (hr : RR encI w0.heap.size (.slice R1 s.river.length r1) s.river w0) (hk : RR encI w0.heap.size (.slice K1 s.leaks.length k1) s.leaks w0) (hl : RR encI w0.heap.size (.slice L1 s.losses.length l1) s.losses w0)
  (hw : WOk ws) (ho : WaOk ws ⟨s.river, s.boards.set j k, s.leaks, s.losses⟩) (hi : j < total ws) (hj : j < s.boards.length) (hgb : w0.heap.size ≤ gb) (q0 : W.cell? ⟨bs, 0, none⟩ = some (.slice R1 s.river.length r1)) (q1 : W.cell? ⟨bs, 1, none⟩ = some (.slice (some ⟨gb, 0, none⟩) s.boards.length gc)) (q2 : W.cell? ⟨bs, 2, none⟩ = some (.slice K1 s.leaks.length k1)) (q3 : W.cell? ⟨bs, 3, none⟩ = some (.slice L1 s.losses.length l1)) (q4 : W.cell? ⟨bp, 0, none⟩ = some (.int .i64 j)) (q5 : W.cell? ⟨bw, 0, none⟩ = some (.slice A ws.length c)) (q6 : W.cell? ⟨bn, 0, none⟩ = some (.int .i64 want))
  (ow : OwnG encI 1 3 base (.slice (some ⟨gb, 0, none⟩) s.boards.length gc) (s.boards.set j m) W) (nbs : bs ≠ gb) (nbp : bp ≠ gb) (nbw : bw ≠ gb) (nbn : bn ≠ gb) :
  Calls Try.prog 95 #[.int .i64 k, .pointer (some ⟨bs, 0, none⟩), .pointer (some ⟨bp, 0, none⟩), .pointer (some ⟨bw, 0, none⟩), .pointer (some ⟨bn, 0, none⟩)] W fun e w' => e = .returned (.bool (decide (want ≤ (flowF ws ⟨s.river, s.boards.set j k, s.leaks, s.losses⟩).thr.getD j 0))) ∧ GrownL [gb] W w' ∧ OwnG encI 1 3 base (.slice (some ⟨gb, 0, none⟩) s.boards.length gc) (s.boards.set j k) w' := by
 have hi60 : j < 60 := by have := hw.tot; omega
 have hln : s.boards.length ≤ 60 := by
  have := headsL_len hw
  have := ho.r
  have := ho.b
  have := hw.tot
  simp [headsL] at *
  omega
 obtain ⟨y, hy⟩ : ∃ y, (s.boards.set j m)[j]? = some y := ⟨_, List.getElem?_eq_getElem (by simpa using hj)⟩
 have ow' : W.ownsRow base 3 1 (.slice (some ⟨gb, 0, none⟩) s.boards.length gc) s.boards.length ((s.boards.set j m).flatMap encI) := by have := ow; unfold OwnG at this; rwa [List.length_set] at this
 have hat : ((s.boards.set j m).flatMap encI)[j]? = some (.int .i64 y) := by have := EI.at_ (s.boards.set j m) j 0 y hy (by decide); rw [Nat.mul_one, Nat.add_zero] at this; exact this.trans rfl
 have y0 : W.cell? ⟨gb, j, none⟩ = some (.int .i64 y) := (World.ownsRow.cellAt ow' j (by omega)).trans hat
 have z0 := World.ownsRow.frozenAt ow' j
 obtain ⟨W5, hW5⟩ : ∃ W5, W.setCell ⟨gb, j, none⟩ (.int .i64 k) = W5 := ⟨_, rfl⟩
 have g5 : GrownL [gb] W W5 := by rw [← hW5]; exact GrownL.set _ _ _ (by simp)
 have OW5 : Hid (OwnG encI 1 3 base (.slice (some ⟨gb, 0, none⟩) s.boards.length gc) (s.boards.set j k) W5) := Lib.hid (by
  have := OwnG.set1 ow (by simp) j k
  rw [List.set_set] at this
  rw [← hW5]
  exact this)
 have HB5 : Hid (Below w0.heap.size w0 W5) := Lib.hid (hb.trans (g5.below (by simp; omega) hb.size))
 have HLN := Lib.hid hln
 have HR := Lib.hid hr
 have HK := Lib.hid hk
 have HL := Lib.hid hl
 have HA := Lib.hid h
 obtain ⟨F, hF⟩ : ∃ F, flowF ws ⟨s.river, s.boards.set j k, s.leaks, s.losses⟩ = F := ⟨_, rfl⟩
 have CR := Lib.hid fun W' (hb : Below W5.heap.size W5 W') => run_any A c _ ws ⟨s.river, s.boards.set j k, s.leaks, s.losses⟩ W' (HA.out.up (HB5.out.trans (hb.mono HB5.out.size)).size (HB5.out.trans (hb.mono HB5.out.size))) ⟨_, _, _, _, rfl, (HR.out).up (HB5.out.trans (hb.mono HB5.out.size)).size (HB5.out.trans (hb.mono HB5.out.size)), (OW5.out.below hb).rr EI (by simp; have := HLN.out; omega), (HK.out).up (HB5.out.trans (hb.mono HB5.out.size)).size (HB5.out.trans (hb.mono HB5.out.size)), (HL.out).up (HB5.out.trans (hb.mono HB5.out.size)).size (HB5.out.trans (hb.mono HB5.out.size))⟩ hw ho
 rw [hF] at CR ⊢
 obtain ⟨f, hf⟩ : ∃ f, F.thr.getD j 0 = f := ⟨_, rfl⟩
 have FT := Lib.hid (fs_thr F)
 have FI := Lib.hid (fs_at F j hi60)
 rw [hf] at FI ⊢
 obtain ⟨z, hz⟩ : ∃ z, decide (want ≤ f) = z := ⟨_, rfl⟩
 have HZ := Lib.hid hz
 rw [hz]
 have HG5 := Lib.hid g5
 have x0 := g5.cell q0 (by simpa using nbs)
 have x1 := g5.cell q1 (by simpa using nbs)
 have x2 := g5.cell q2 (by simpa using nbs)
 have x3 := g5.cell q3 (by simpa using nbs)
 have x4 := g5.cell q4 (by simpa using nbp)
 have x5 := g5.cell q5 (by simpa using nbw)
 have x6 := g5.cell q6 (by simpa using nbn)
 have HW5 := Lib.hid hW5
 have hj0 : (j : Int) < (s.boards.length : Int) := by omega
 have hj1 : (0 : Int) ≤ (j : Int) := by omega
 have hi0 : (j : Int) < 60 := by omega
 have hi1 : (0 : Int) ≤ (j : Int) := by omega
 clear h hb hr hk hl hw ho hF hf hz hW5 g5 hat ow ow' hy hgb
 go_enter Try.func95, Try.ntmps95
 go_wp2_with fail
 rw [HW5.out]
 clear q0 q1 q2 q3 q4 q5 q6 y0 z0
 refine wp_region_held_drew  (S := BelS W5) (by kernel_rfl) (BelS.drew0 _) (fun J0 => ?_)
 have KK1 := Lib.hid fun (w_ : World) (hSw : BelS _ w_) => And.intro (hSw.c x5) (And.intro (hSw.c x0) (And.intro (hSw.c x1) (And.intro (hSw.c x2) (And.intro (hSw.c x3) (And.intro (hSw.c x4) (hSw.c x6))))))
 refine tw 0 13 J0 ?_ (hy := by intro w' hSw; have ft := FT.out w'; have fi := FI.out w'; have q := KK1.out w' hSw; go_simp; try with_reducible rfl)
 try simp only [aS]
 refine tw 1 14 J0 ?_ (hy := by intro w' hSw; have ft := FT.out w'; have fi := FI.out w'; have q := KK1.out w' hSw; go_simp; try with_reducible rfl)
 try simp only [aS]
 refine tw 4 17 J0 ?_ (hy := by intro w' hSw; have ft := FT.out w'; have fi := FI.out w'; have q := KK1.out w' hSw; go_simp; try with_reducible rfl)
 try simp only [aS]
 refine tw 5 18 J0 ?_ (hy := by intro w' hSw; have ft := FT.out w'; have fi := FI.out w'; have q := KK1.out w' hSw; go_simp; try with_reducible rfl)
 try simp only [aS]
 refine tw 7 20 J0 ?_ (hy := by intro w' hSw; have ft := FT.out w'; have fi := FI.out w'; have q := KK1.out w' hSw; go_simp; try with_reducible rfl)
 try simp only [aS]
 refine wpAnyH_ready (rs := [2]) (by kernel_rfl) (by simp) ?_
 refine AllReadyH.cons rfl (fun K hK => ?_) AllReadyH.nil
 go_simp
 refine (CR.out _ (BelS.b J0)).mono ?_
 rintro e wq1 ⟨rfl, hq1⟩
 have J01 := J0.below hq1
 clear hq1
 refine hK.out _ _ J01 (fun _ => ?_)
 clear hK
 try simp only [aS]
 refine tw 3 16 J01 ?_ (hy := by intro w' hSw; have ft := FT.out w'; have fi := FI.out w'; have q := KK1.out w' hSw; go_simp; try with_reducible rfl)
 try simp only [aS]
 refine tw 6 19 J01 ?_ (hy := by intro w' hSw; have ft := FT.out w'; have fi := FI.out w'; have q := KK1.out w' hSw; go_simp; try with_reducible rfl)
 try simp only [aS]
 refine takeW (i := 8) (d := some 21) (v := .bool z) rfl rfl (by kernel_rfl) (by kernel_rfl) (by kernel_rfl) (fun _ _ _ h => h) (by rfl) ?_ J01 ?_
 ·(intro w' hSw; have ft := FT.out w'; have fi := FI.out w'; have q0 := hSw.c x5; have q1 := hSw.c x0; have q2 := hSw.c x1; have q3 := hSw.c x2; have q4 := hSw.c x3; have q5 := hSw.c x4; have q6 := hSw.c x6; go_simp; first | done | (rw [HZ.out]; try rfl))
 try simp only [aS]
 refine tw 9 6 J01 ?_ (hy := by intro w' hSw; have ft := FT.out w'; have fi := FI.out w'; have q := KK1.out w' hSw; go_simp; try with_reducible rfl)
 try simp only [aS]
 refine wpAnyH_done (by kernel_rfl) ?_ _
 have BF := Lib.hid (BelS.b J01)
 clear J0 J01 x0 x1 x2 x3 x4 x5 x6
 go_wp2_with fail
 go_ret
 exact ⟨rfl, HG5.out.trans (GrownL.of_below BF.out), OW5.out.below BF.out⟩

set_option maxHeartbeats 8000000 in
set_option maxRecDepth 1000000 in
theorem send1_any (bs bh bw bp bn gb : Nat) (w0 W : World) (A : Option Addr) (c : Nat) (ws : Wk) (_R1 B1 K1 L1 : Option Addr) (_r1 b1 k1 l1 gc base : Nat) (s : Wa) (i j : Nat) (k m want : Int) (h : RK w0.heap.size (.slice A ws.length c) ws w0) (hb : Below w0.heap.size w0 W) (hb1 : RR encI w0.heap.size (.slice B1 s.boards.length b1) s.boards w0) (hk : RR encI w0.heap.size (.slice K1 s.leaks.length k1) s.leaks w0) (hl : RR encI w0.heap.size (.slice L1 s.losses.length l1) s.losses w0)
  (hw : WOk ws) (ho : WaOk ws ⟨s.river.set j k, s.boards, s.leaks, s.losses⟩) (hi : i < total ws) (hj : j < s.river.length) (hgb : w0.heap.size ≤ gb) (q0 : W.cell? ⟨bs, 0, none⟩ = some (.slice (some ⟨gb, 0, none⟩) s.river.length gc)) (q1 : W.cell? ⟨bs, 1, none⟩ = some (.slice B1 s.boards.length b1)) (q2 : W.cell? ⟨bs, 2, none⟩ = some (.slice K1 s.leaks.length k1)) (q3 : W.cell? ⟨bs, 3, none⟩ = some (.slice L1 s.losses.length l1)) (q4 : W.cell? ⟨bp, 0, none⟩ = some (.int .i64 i)) (q5 : W.cell? ⟨bw, 0, none⟩ = some (.slice A ws.length c)) (q6 : W.cell? ⟨bn, 0, none⟩ = some (.int .i64 want)) (q7 : W.cell? ⟨bh, 0, none⟩ = some (.int .i64 j))
  (ow : OwnG encI 1 3 base (.slice (some ⟨gb, 0, none⟩) s.river.length gc) (s.river.set j m) W) (nbs : bs ≠ gb) (_nbh : bh ≠ gb) (nbw : bw ≠ gb) (nbp : bp ≠ gb) (nbn : bn ≠ gb) :
  Calls Try.prog 98 #[.int .i64 k, .pointer (some ⟨bs, 0, none⟩), .pointer (some ⟨bh, 0, none⟩), .pointer (some ⟨bw, 0, none⟩), .pointer (some ⟨bp, 0, none⟩), .pointer (some ⟨bn, 0, none⟩)] W fun e w' => e = .returned (.bool (decide (want ≤ (flowF ws ⟨s.river.set j k, s.boards, s.leaks, s.losses⟩).thr.getD i 0))) ∧ GrownL [gb] W w' ∧ OwnG encI 1 3 base (.slice (some ⟨gb, 0, none⟩) s.river.length gc) (s.river.set j k) w' := by
 have hi60 : i < 60 := by have := hw.tot; omega
 have hln : s.river.length ≤ 60 := by
  have := headsL_len hw
  have := ho.r
  have := ho.b
  have := hw.tot
  simp [headsL] at *
  omega
 obtain ⟨y, hy⟩ : ∃ y, (s.river.set j m)[j]? = some y := ⟨_, List.getElem?_eq_getElem (by simpa using hj)⟩
 have ow' : W.ownsRow base 3 1 (.slice (some ⟨gb, 0, none⟩) s.river.length gc) s.river.length ((s.river.set j m).flatMap encI) := by have := ow; unfold OwnG at this; rwa [List.length_set] at this
 have hat : ((s.river.set j m).flatMap encI)[j]? = some (.int .i64 y) := by have := EI.at_ (s.river.set j m) j 0 y hy (by decide); rw [Nat.mul_one, Nat.add_zero] at this; exact this.trans rfl
 have y0 : W.cell? ⟨gb, j, none⟩ = some (.int .i64 y) := (World.ownsRow.cellAt ow' j (by omega)).trans hat
 have z0 := World.ownsRow.frozenAt ow' j
 obtain ⟨W5, hW5⟩ : ∃ W5, W.setCell ⟨gb, j, none⟩ (.int .i64 k) = W5 := ⟨_, rfl⟩
 have g5 : GrownL [gb] W W5 := by rw [← hW5]; exact GrownL.set _ _ _ (by simp)
 have OW5 : Hid (OwnG encI 1 3 base (.slice (some ⟨gb, 0, none⟩) s.river.length gc) (s.river.set j k) W5) := Lib.hid (by
  have := OwnG.set1 ow (by simp) j k
  rw [List.set_set] at this
  rw [← hW5]
  exact this)
 have HB5 : Hid (Below w0.heap.size w0 W5) := Lib.hid (hb.trans (g5.below (by simp; omega) hb.size))
 have HLN := Lib.hid hln
 have HB := Lib.hid hb1
 have HK := Lib.hid hk
 have HL := Lib.hid hl
 have HA := Lib.hid h
 obtain ⟨F, hF⟩ : ∃ F, flowF ws ⟨s.river.set j k, s.boards, s.leaks, s.losses⟩ = F := ⟨_, rfl⟩
 have CR := Lib.hid fun W' (hb : Below W5.heap.size W5 W') => run_any A c _ ws ⟨s.river.set j k, s.boards, s.leaks, s.losses⟩ W' (HA.out.up (HB5.out.trans (hb.mono HB5.out.size)).size (HB5.out.trans (hb.mono HB5.out.size))) ⟨_, _, _, _, rfl, (OW5.out.below hb).rr EI (by simp; have := HLN.out; omega), (HB.out).up (HB5.out.trans (hb.mono HB5.out.size)).size (HB5.out.trans (hb.mono HB5.out.size)), (HK.out).up (HB5.out.trans (hb.mono HB5.out.size)).size (HB5.out.trans (hb.mono HB5.out.size)), (HL.out).up (HB5.out.trans (hb.mono HB5.out.size)).size (HB5.out.trans (hb.mono HB5.out.size))⟩ hw ho
 rw [hF] at CR ⊢
 obtain ⟨f, hf⟩ : ∃ f, F.thr.getD i 0 = f := ⟨_, rfl⟩
 have FT := Lib.hid (fs_thr F)
 have FI := Lib.hid (fs_at F i hi60)
 rw [hf] at FI ⊢
 obtain ⟨z, hz⟩ : ∃ z, decide (want ≤ f) = z := ⟨_, rfl⟩
 have HZ := Lib.hid hz
 rw [hz]
 have HG5 := Lib.hid g5
 have x0 := g5.cell q0 (by simpa using nbs)
 have x1 := g5.cell q1 (by simpa using nbs)
 have x2 := g5.cell q2 (by simpa using nbs)
 have x3 := g5.cell q3 (by simpa using nbs)
 have x4 := g5.cell q4 (by simpa using nbp)
 have x5 := g5.cell q5 (by simpa using nbw)
 have x6 := g5.cell q6 (by simpa using nbn)
 have HW5 := Lib.hid hW5
 have hj0 : (j : Int) < (s.river.length : Int) := by omega
 have hj1 : (0 : Int) ≤ (j : Int) := by omega
 have hi0 : (i : Int) < 60 := by omega
 have hi1 : (0 : Int) ≤ (i : Int) := by omega
 clear h hb hb1 hk hl hw ho hF hf hz hW5 g5 hat ow ow' hy hgb
 go_enter Try.func98, Try.ntmps98
 go_wp2_with fail
 rw [HW5.out]
 clear q0 q1 q2 q3 q4 q5 q6 y0 z0 q7
 refine wp_region_held_drew  (S := BelS W5) (by kernel_rfl) (BelS.drew0 _) (fun J0 => ?_)
 have KK2 := Lib.hid fun (w_ : World) (hSw : BelS _ w_) => And.intro (hSw.c x5) (And.intro (hSw.c x0) (And.intro (hSw.c x1) (And.intro (hSw.c x2) (And.intro (hSw.c x3) (And.intro (hSw.c x4) (hSw.c x6))))))
 refine tw 0 13 J0 ?_ (hy := by intro w' hSw; have ft := FT.out w'; have fi := FI.out w'; have q := KK2.out w' hSw; go_simp; try with_reducible rfl)
 try simp only [aS]
 refine tw 1 14 J0 ?_ (hy := by intro w' hSw; have ft := FT.out w'; have fi := FI.out w'; have q := KK2.out w' hSw; go_simp; try with_reducible rfl)
 try simp only [aS]
 refine tw 4 17 J0 ?_ (hy := by intro w' hSw; have ft := FT.out w'; have fi := FI.out w'; have q := KK2.out w' hSw; go_simp; try with_reducible rfl)
 try simp only [aS]
 refine tw 5 18 J0 ?_ (hy := by intro w' hSw; have ft := FT.out w'; have fi := FI.out w'; have q := KK2.out w' hSw; go_simp; try with_reducible rfl)
 try simp only [aS]
 refine tw 7 20 J0 ?_ (hy := by intro w' hSw; have ft := FT.out w'; have fi := FI.out w'; have q := KK2.out w' hSw; go_simp; try with_reducible rfl)
 try simp only [aS]
 refine wpAnyH_ready (rs := [2]) (by kernel_rfl) (by simp) ?_
 refine AllReadyH.cons rfl (fun K hK => ?_) AllReadyH.nil
 go_simp
 refine (CR.out _ (BelS.b J0)).mono ?_
 rintro e wq1 ⟨rfl, hq1⟩
 have J01 := J0.below hq1
 clear hq1
 refine hK.out _ _ J01 (fun _ => ?_)
 clear hK
 try simp only [aS]
 refine tw 3 16 J01 ?_ (hy := by intro w' hSw; have ft := FT.out w'; have fi := FI.out w'; have q := KK2.out w' hSw; go_simp; try with_reducible rfl)
 try simp only [aS]
 refine tw 6 19 J01 ?_ (hy := by intro w' hSw; have ft := FT.out w'; have fi := FI.out w'; have q := KK2.out w' hSw; go_simp; try with_reducible rfl)
 try simp only [aS]
 refine takeW (i := 8) (d := some 21) (v := .bool z) rfl rfl (by kernel_rfl) (by kernel_rfl) (by kernel_rfl) (fun _ _ _ h => h) (by rfl) ?_ J01 ?_
 ·(intro w' hSw; have ft := FT.out w'; have fi := FI.out w'; have q0 := hSw.c x5; have q1 := hSw.c x0; have q2 := hSw.c x1; have q3 := hSw.c x2; have q4 := hSw.c x3; have q5 := hSw.c x4; have q6 := hSw.c x6; go_simp; first | done | (rw [HZ.out]; try rfl))
 try simp only [aS]
 refine tw 9 7 J01 ?_ (hy := by intro w' hSw; have ft := FT.out w'; have fi := FI.out w'; have q := KK2.out w' hSw; go_simp; try with_reducible rfl)
 try simp only [aS]
 refine wpAnyH_done (by kernel_rfl) ?_ _
 have BF := Lib.hid (BelS.b J01)
 clear J0 J01 x0 x1 x2 x3 x4 x5 x6
 go_wp2_with fail
 go_ret
 exact ⟨rfl, HG5.out.trans (GrownL.of_below BF.out), OW5.out.below BF.out⟩

end Go.Proofs.Ytkoacclbempmdaa

/- Contract of checkWish; water with one number changed. -/
namespace Go.Proofs.Ytkoacclbempmdaa
open Go.RowKit

/-- What checkWish says. -/
def WishAt (ws : Wk) (s : Wa) (id want i d : Int) : Prop := (WatIs ws s d ∧ d ≠ 0 ∧ i = 0) ∨ (WatIs ws s 0 ∧ KnownIs ws id i d ∧ d ≠ 0) ∨ (WatIs ws s 0 ∧ (∃ j, KnownIs ws id j 0) ∧ inB 0 1048576 want = false ∧ i = 0 ∧ d = 1) ∨ (WatIs ws s 0 ∧ KnownIs ws id i 0 ∧ inB 0 1048576 want = true ∧ d = 0)
theorem WishAt.exists_ (ws : Wk) (s : Wa) (id want : Int) : ∃ i d, WishAt ws s id want i d := by
 obtain ⟨d, hd⟩ := WatIs.exists_ ws s
 by_cases h : d = 0
 ·subst h
  obtain ⟨i, d', h'⟩ := KnownIs.exists_ ws id
  by_cases h2 : d' = 0
  ·subst h2
   cases hb : inB 0 1048576 want
   ·exact ⟨0, 1, .inr (.inr (.inl ⟨hd, ⟨i, h'⟩, hb, rfl, rfl⟩))⟩
   ·exact ⟨i, 0, .inr (.inr (.inr ⟨hd, h', hb, rfl⟩))⟩
  ·exact ⟨i, d', .inr (.inl ⟨hd, h', h2⟩)⟩
 ·exact ⟨0, d, .inl ⟨hd, h, rfl⟩⟩
theorem KnownIs.at_ {ws : Wk} {id i : Int} (h2 : KnownIs ws id i 0) : ∃ (n : Nat) (p : Pl), i = n ∧ FstIs (fun o : Ou => o.id) (outs ws) id n ∧ (allP ws)[n]? = some p := by
 rcases h2 with ⟨_, h, _⟩ | ⟨_, _, _, h⟩ | ⟨_, hf, hi, _⟩
 ·exact absurd rfl h
 ·omega
 ·obtain ⟨n, rfl⟩ : ∃ n : Nat, i = n := ⟨i.toNat, by omega⟩
  refine ⟨n, ?_⟩
  rcases hf with ⟨k, o, h1, h2, h3, h4⟩ | ⟨-, h⟩
  ·have e : k = n := by omega
   subst e
   obtain ⟨p, hp⟩ := at_total (ws := ws) (n := k) (by rw [← outs_len]; exact (List.getElem?_eq_some_iff.1 h1).1)
   exact ⟨p, rfl, .inl ⟨k, o, h1, h2, h3, h4⟩, hp⟩
  ·omega
theorem WishAt.ok {ws : Wk} {s : Wa} {id want i : Int} (h : WishAt ws s id want i 0) : WOk ws ∧ WaOk ws s ∧ (0 ≤ want ∧ want ≤ 1048576) ∧ ∃ (n : Nat) (p : Pl), i = n ∧ FstIs (fun o : Ou => o.id) (outs ws) id n ∧ (allP ws)[n]? = some p := by
 rcases h with ⟨_, h, _⟩ | ⟨_, _, h⟩ | ⟨_, _, _, _, h⟩ | ⟨h1, h2, h3, _⟩
 ·exact absurd rfl h
 ·exact absurd rfl h
 ·omega
 ·exact ⟨h1.ok.1, h1.ok.2, inB_iff.1 h3, h2.at_⟩

set_option maxHeartbeats 8000000 in
set_option maxRecDepth 1000000 in
theorem checkWish_any (v wv : Value) (ws : Wk) (s : Wa) (id want i d : Int) (w : World) (h : RK w.heap.size v ws w) (ht : total ws ≤ 100000) (hs : RWa w.heap.size wv s w) (hd : WishAt ws s id want i d) :
  Calls Try.prog 90 #[.agg #[v], wv, .int .i64 id, .int .i64 want] w fun e w' => e = .returned (.int .i64 d) ∧ Below w.heap.size w w' := by
 obtain ⟨A, c, rfl, -⟩ := (show ∃ A c, v = .slice A ws.length c ∧ True by obtain ⟨A, c, e, _⟩ := h; exact ⟨A, c, e, trivial⟩)
 obtain ⟨A1, c1, A2, c2, A3, c3, A4, c4, rfl⟩ := hs.form
 have S0 := Lib.hid (WW.new w (.slice A ws.length c) (.slice A1 s.river.length c1) (.slice A2 s.boards.length c2) (.slice A3 s.leaks.length c3) (.slice A4 s.losses.length c4))
 have C1 := Lib.hid fun (d : Int) (hc : WatIs ws s d) W (hb : Below w.heap.size w W) => CheckWater_any (.slice A ws.length c) _ ws s d W (h.up hb.size hb) (by omega) (hs.up hb.size hb) hc
 have C2 := Lib.hid fun (i d : Int) (hk : KnownIs ws id i d) W (hb : Below w.heap.size w W) => checkOutlet_any (.slice A ws.length c) ws id i d W (h.up hb.size hb) ht hk
 clear h hs
 rcases hd with ⟨hc, hd, rfl⟩ | ⟨hc, hk, hd⟩ | ⟨hc, ⟨j, hk⟩, hb, rfl, rfl⟩ | ⟨hc, hk, hb, rfl⟩
 ·have HC := Lib.hid hc
  have HD := Lib.hid hd
  clear hc hd
  go_enter Try.func90, Try.ntmps90
  go_wp2_with fail
  refine (C1.out d HC.out _ S0.out.bel).mono ?_
  rintro e w1 ⟨rfl, b1⟩
  have S := Lib.hid (S0.out.below b1)
  have hd := HD.out
  clear b1
  go_wp2_with fail
  go_ret
  exact ⟨rfl, S.out.bel⟩
 ·have HC := Lib.hid hc
  have HK := Lib.hid hk
  have HD := Lib.hid hd
  clear hc hk hd
  go_enter Try.func90, Try.ntmps90
  go_wp2_with fail
  refine (C1.out 0 HC.out _ S0.out.bel).mono ?_
  rintro e w1 ⟨rfl, b1⟩
  have S := Lib.hid (S0.out.below b1)
  have t0 := S.out.wk
  clear b1
  go_wp2_with fail
  refine (C2.out i d HK.out _ S.out.bel).mono ?_
  rintro e w2 ⟨rfl, b2⟩
  have S2 := Lib.hid (S.out.below b2)
  have hd := HD.out
  clear b2 t0
  go_wp2_with fail
  go_ret
  exact ⟨rfl, S2.out.bel⟩
 all_goals
  have HC := Lib.hid hc
  have HK := Lib.hid hk
  have HB := Lib.hid hb
  clear hc hk hb
  go_enter Try.func90, Try.ntmps90
  go_wp2_with fail
  refine (C1.out 0 HC.out _ S0.out.bel).mono ?_
  rintro e w1 ⟨rfl, b1⟩
  have S := Lib.hid (S0.out.below b1)
  have t0 := S.out.wk
  clear b1
  go_wp2_with fail
  refine (C2.out _ 0 HK.out _ S.out.bel).mono ?_
  rintro e w2 ⟨rfl, b2⟩
  have S2 := Lib.hid (S.out.below b2)
  clear b2 t0
  go_wp2_with fail
  refine (flows_any _).mono ?_
  rintro e w3 ⟨rfl, b3⟩
  have S3 := Lib.hid (S2.out.below b3)
  clear b3
  go_wp2_with fail
  refine (hasN_any 0 1048576 want _).mono ?_
  rintro e w4 ⟨rfl, b4⟩
  have S4 := Lib.hid (S3.out.below b4)
  clear b4
  rw [HB.out]
  go_wp2_with fail
  go_ret
  exact ⟨rfl, S4.out.bel⟩
/-- Water with another board of an outlet, another river of a head. -/
def setB (s : Wa) (i : Nat) (k : Int) : Wa := ⟨s.river, s.boards.set i k, s.leaks, s.losses⟩
def setR (s : Wa) (j : Nat) (k : Int) : Wa := ⟨s.river.set j k, s.boards, s.leaks, s.losses⟩
theorem setB_ok {ws : Wk} {s : Wa} (h : WaOk ws s) {i : Nat} {p : Pl} (hp : (allP ws)[i]? = some p) {k : Int} (h0 : 0 ≤ k) (h1 : k < p.o.ps.length) : WaOk ws (setB s i k) := by
 refine ⟨h.r, by simp [setB, h.b], h.k, h.l, h.rr, fun j q x hq hx => ?_, h.ok, h.ol⟩
 unfold setB at hx
 simp only at hx
 by_cases e : i = j
 ·subst e
  rw [List.getElem?_set_self (by rw [h.b]; exact lt_total hp)] at hx
  cases hx
  rw [hp] at hq
  cases hq
  exact ⟨h0, h1⟩
 ·rw [List.getElem?_set_ne e] at hx
  exact h.ob j q x hq hx
theorem setR_ok {ws : Wk} {s : Wa} (h : WaOk ws s) {j : Nat} {k : Int} (h0 : 0 ≤ k) (h1 : k ≤ 1048576) : WaOk ws (setR s j k) := by
 refine ⟨by simp [setR, h.r], h.b, h.k, h.l, fun x hx => ?_, h.ob, h.ok, h.ol⟩
 unfold setR at hx
 simp only at hx
 rcases List.mem_or_eq_of_mem_set hx with hx | rfl
 ·exact h.rr x hx
 ·exact ⟨h0, h1⟩
/-- The least number of a row of numbers from 0 that is enough, as lowest says it. -/
def LowIs (n : Nat) (pr : Nat → Bool) (a e : Int) : Prop := ∃ k : Nat, k ≤ n + 1 ∧ (0 < k → pr (k - 1) = false) ∧ (k < n + 1 → pr k = true) ∧ a = (if n < k then 0 else (k : Int)) ∧ e = if n < k then 5 else 0
end Go.Proofs.Ytkoacclbempmdaa
