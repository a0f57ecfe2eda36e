/- The law CarrierWithout, by its walk. -/
import Derived.Test.YtkoacclbempmdaaQFC
import Derived.Test.YtkoacclbempmdaaQFD
import Derived.Test.YtkoacclbempmdaaGZL
import Derived.Test.YtkoacclbempmdaaOOW
namespace Go.Proofs.Ytkoacclbempmdaa
open Go.RowKit

theorem IsLess.small {ws R : Wk} {c0 : Nat} (h : IsLess ws c0 R) : R.length ≤ ws.length ∧ (∀ os ∈ R, os.length ≤ total ws ∧ ∀ o ∈ os, ∃ os' ∈ ws, ∃ o' ∈ os', o.ps = o'.ps) := by
 refine ⟨by rw [less_len h]; exact numN_le _ _ _, fun os hos => ?_⟩
 have : os.map Ou.co ∈ wOut ws c0 ws.length := by rw [← h]; exact List.mem_map_of_mem hos
 unfold wOut at this
 obtain ⟨k, hk, e⟩ := List.mem_map.1 this
 rw [List.mem_filter, List.mem_range] at hk
 obtain ⟨os', hos'⟩ : ∃ os', ws[k]? = some os' := ⟨_, List.getElem?_eq_getElem hk.1⟩
 rw [List.getD_eq_getElem?_getD, hos'] at e
 simp only [Option.getD_some] at e
 have hl := congrArg List.length e
 rw [List.length_map, List.length_map] at hl
 refine ⟨?_, fun o ho => ⟨os', List.mem_of_getElem? hos', ?_⟩⟩
 ·have h2 := pre_le ws (k + 1)
  rw [pre_succ hos'] at h2
  omega
 ·have : o.co ∈ os'.map (newO ws c0) := by rw [e]; exact List.mem_map_of_mem ho
  obtain ⟨o', ho', e'⟩ := List.mem_map.1 this
  exact ⟨o', ho', (ouB_co e'.symm).2.2.2.1⟩
/-- Both answers are the same works, and the same error. -/
theorem WoIs.same {ws : Wk} {d n : Int} {base base' : Nat} {v v' : Value} {E E' : Int} {W W' : World} (h : WoIs ws d n base v E W) (h' : WoIs ws d n base' v' E' W') : ∃ L L' : List Kr, Deep base v L W ∧ Deep base' v' L' W' ∧ E = E' ∧ (L.map (·.os)).map (fun os => os.map Ou.co) = (L'.map (·.os)).map (fun os => os.map Ou.co) ∧ L.length ≤ ws.length ∧ L'.length ≤ ws.length ∧ (∀ os ∈ L.map (·.os), os.length ≤ total ws ∧ ∀ o ∈ os, ∃ os' ∈ ws, ∃ o' ∈ os', o.ps = o'.ps) := by
 obtain ⟨L, h1, h⟩ := h
 obtain ⟨L', h1', h'⟩ := h'
 have hsm : ∀ {c0}, IsLess ws c0 (L.map (·.os)) → _ := fun h => IsLess.small h
 refine ⟨L, L', h1, h1', ?_⟩
 rcases h with ⟨a, rfl, rfl⟩ | ⟨rfl, a, rfl, rfl⟩ | ⟨rfl, c0, rfl, a, rfl, b⟩ <;> rcases h' with ⟨x, rfl, rfl⟩ | ⟨y, x, rfl, rfl⟩ | ⟨y, c1, y2, x, rfl, z⟩
 ·exact ⟨rfl, rfl, Nat.zero_le _, Nat.zero_le _, fun os hos => by cases hos⟩
 ·exact absurd y a
 ·exact absurd y a
 ·exact absurd rfl x
 ·exact ⟨rfl, rfl, Nat.zero_le _, Nat.zero_le _, fun os hos => by cases hos⟩
 ·omega
 ·exact absurd rfl x
 ·omega
 ·obtain rfl : c0 = c1 := by omega
  have s1 := b.small
  have s2 := z.small
  rw [List.length_map] at s1 s2
  exact ⟨rfl, b.trans z.symm, s1.1, s2.1, s1.2⟩

set_option maxHeartbeats 8000000 in
set_option maxRecDepth 1000000 in
theorem without_law (A : Option Addr) (c : Nat) (ws : Wk) (n : Int) (w : World) (h : RK w.heap.size (.slice A ws.length c) ws w) (hr : Room (.slice A ws.length c) ws w) :
  Calls Try.prog 17 #[.agg #[.slice A ws.length c], .int .i64 n] w fun e w' => e = .returned (.bool true) ∧ Below w.heap.size w w' := by
 have H := Lib.hid h
 have HR := Lib.hid hr
 have S := Lib.hid (Wd.new (w := w) (v := .slice A ws.length c) 24)
 clear h hr
 go_enter Try.func17, Try.ntmps17
 have x0 := S.out.c
 go_wp2_with fail
 refine (few_any A ws.length c ws _ (H.out.up S.out.bel.size S.out.bel)).mono ?_
 rintro e w1 ⟨b, rfl, hfew, b1⟩
 replace S := Lib.hid (S.out.below b1)
 clear b1 x0
 cases b
 ·clear hfew
  have x0 := S.out.c
  go_wp2_with fail
  refine (sanity_any _).mono ?_
  rintro e wz ⟨rfl, bz⟩
  have SZ := Lib.hid (S.out.below bz)
  clear bz
  go_wp2_with fail
  go_ret
  exact ⟨rfl, SZ.out.bel⟩
 have HT : Hid (total ws ≤ 90 ∧ ws.length ≤ 30 ∧ ∀ os ∈ ws, ∀ o ∈ os, o.ps.length ≤ 20) := Lib.hid (by have := hfew (by trivial); have h1 := this.1; have h2 := this.2.1; exact ⟨by omega, by omega, this.2.2⟩)
 clear hfew
 obtain ⟨d, hd⟩ := CheckIs.exists_ ws
 have HD := Lib.hid hd
 clear hd
 have x0 := S.out.c
 go_wp2_with fail
 refine (without_any A c ws n d _ (H.out.up S.out.bel.size S.out.bel) (HR.out.up H.out S.out.bel) (by have := HT.out.1; omega) HD.out (fun os hos o ho => by have := HT.out.2.2 os hos o ho; omega)).mono ?_
 rintro e w2 ⟨v, E, rfl, ho, b2⟩
 obtain ⟨Av, n0, cv, rfl⟩ : ∃ Av n0 cv, v = .slice Av n0 cv := by obtain ⟨L0, D0, -⟩ := id ho; obtain ⟨Av, cv, hv, -⟩ := D0.1.form; exact ⟨_, _, _, hv⟩
 replace S := Lib.hid (S.out.below b2)
 have HO := Lib.hid ho
 obtain ⟨W2, hW2⟩ : ∃ W2, w2.alloc (.cells #[.slice Av n0 cv] 24) = W2 := ⟨_, rfl⟩
 have b2' : Below w2.heap.size w2 W2 := by rw [← hW2]; exact (Below.refl _ _).alloc (Nat.le_refl _) _
 have V2 : Hid (W2.cell? ⟨w2.heap.size, 0, none⟩ = some (.slice Av n0 cv)) := Lib.hid (by rw [← hW2]; simp [go_sem])
 replace S := Lib.hid (S.out.below b2')
 have B2 := Lib.hid b2'
 clear b2 b2' ho x0
 have x0 := S.out.c
 go_wp2_with fail
 refine (rwithout_any A c ws n d _ (H.out.up S.out.bel.size S.out.bel) (by have := HT.out.1; omega) HD.out (fun os hos o ho => by have := HT.out.2.2 os hos o ho; omega)).mono ?_
 rintro e w3 ⟨v', E', rfl, ho', b3⟩
 obtain ⟨Av', n0', cv', rfl⟩ : ∃ Av n0 cv, v' = .slice Av n0 cv := by obtain ⟨L0, D0, -⟩ := id ho'; obtain ⟨Av, cv, hv, -⟩ := D0.1.form; exact ⟨_, _, _, hv⟩
 replace S := Lib.hid (S.out.below b3)
 replace V2 := Lib.hid (BelS.c b3 V2.out)
 have B3 := Lib.hid (B2.out.trans (b3.mono B2.out.size))
 have HO' := Lib.hid ho'
 obtain ⟨W3, hW3⟩ : ∃ W3, w3.alloc (.cells #[.slice Av' n0' cv', .int .i64 E'] 114) = W3 := ⟨_, rfl⟩
 have b3' : Below w3.heap.size w3 W3 := by rw [← hW3]; exact (Below.refl _ _).alloc (Nat.le_refl _) _
 have V3 : Hid (W3.cell? ⟨w3.heap.size, 0, none⟩ = some (.slice Av' n0' cv') ∧ W3.cell? ⟨w3.heap.size, 1, none⟩ = some (.int .i64 E')) := Lib.hid (by rw [← hW3]; exact ⟨by simp [go_sem], by simp [go_sem]⟩)
 replace S := Lib.hid (S.out.below b3')
 replace V2 := Lib.hid (BelS.c b3' V2.out)
 have B4 := Lib.hid b3'
 clear b3 b3' ho' x0 hW2
 go_wp2_with fail
 refine (sanity_any _).mono ?_
 rintro e w4 ⟨rfl, b4⟩
 replace S := Lib.hid (S.out.below b4)
 replace V2 := Lib.hid (BelS.c b4 V2.out)
 replace V3 := Lib.hid (And.intro (BelS.c b4 V3.out.1) (BelS.c b4 V3.out.2))
 obtain ⟨L, L', D, D', rfl, hco, hl1, hl2, hsm⟩ := HO.out.same HO'.out
 have bw4 : Below w3.heap.size w3 w4 := B4.out.trans (b4.mono B4.out.size)
 have bw3 : Below w2.heap.size w2 w4 := B3.out.trans (bw4.mono B3.out.size)
 have D4 := Lib.hid (D.below bw3)
 have D4' := Lib.hid (D'.below bw4)
 obtain ⟨A3, c3, hv3, -⟩ := D.1.form
 obtain ⟨A4, c4, hv4, -⟩ := D'.1.form
 simp only [Value.slice.injEq] at hv3 hv4
 obtain ⟨-, rfl, -⟩ := hv3
 obtain ⟨-, rfl, -⟩ := hv4
 have HC := Lib.hid hco
 have HSM := Lib.hid hsm
 have HLL := Lib.hid (And.intro hl1 hl2)
 have r1 := V2.out
 have r2 := V3.out.1
 have r3 := V3.out.2
 clear D D' bw4 bw3 b4 hco hsm hW3 hl1 hl2
 go_wp2_with fail
 have k1 := D4.out.rk (by have := HLL.out; have := HT.out; show L.length ≤ 1000000000000000; omega)
 have k2 := D4'.out.rk (by have := HLL.out; have := HT.out; show L'.length ≤ 1000000000000000; omega)
 have C := sameWorks_any Av cv Av' cv' (L.map (·.os)) (L'.map (·.os)) w4 (by rw [List.length_map]; exact k1) (by rw [List.length_map]; exact k2) HC.out (by rw [List.length_map]; have := HLL.out; have := HT.out; omega) (fun os hos => by have := (HSM.out os hos).1; have := HT.out; omega) (fun os hos o ho => by
  obtain ⟨os', h1, o', h2, e⟩ := (HSM.out os hos).2 o ho
  rw [e]
  have := HT.out.2.2 os' h1 o' h2
  omega)
 rw [List.length_map, List.length_map] at C
 refine C.mono ?_
 rintro e w5 ⟨rfl, b5⟩
 replace S := Lib.hid (S.out.below b5)
 replace r3 := BelS.c b5 r3
 clear b5 C k1 k2 r1 r2
 go_wp2_with fail
 go_ret
 exact ⟨by trivial, S.out.bel⟩
end Go.Proofs.Ytkoacclbempmdaa
