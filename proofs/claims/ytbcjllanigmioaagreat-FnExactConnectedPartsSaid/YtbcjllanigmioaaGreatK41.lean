/- The texts G24, joined. No statement is proved here. -/
import Derived.Test.YtbcjllanigmioaaGreatK39
import Derived.Test.YtbcjllanigmioaaGreatK40
import Derived.Test.YtbcjllanigmioaaGreatK22
/- Orders of programs: OrderValid of the model and of the program. No statement is proved here. -/
namespace Go.Proofs.YtbcjllanigmioaaGreat
open Go.RowKit Go.Maps

def ordB (ars : List Arr) (ps : List Pt) (xs : List Int) : Bool := progB ars ps && permB (insM ps).length xs
theorem insM_120 {ars : List Arr} {ps : List Pt} (h : progB ars ps = true) : (insM ps).length ≤ 120 := by rw [insM_len]; exact (progB_inv h).2.2.2

set_option linter.unusedVariables false in
set_option maxRecDepth 100000 in
set_option maxHeartbeats 1000000 in
theorem specOrderValid_any (v : Value) (ars : List Arr) (ps : List Pt) (p : Option Addr) (n c : Nat) (xs : List Int) (w : World) (hp : PrR w v ars ps) (hn : xs.length = n) (hs : IntsAt w (.slice p n c) xs) :
    Calls Tryz.prog 75 #[v, .slice p n c] w fun e w' => e = .returned (.bool (ordB ars ps xs)) ∧ Ext w w' := by
  obtain ⟨qa, ca, qp, cp, rfl, -, -, -, -⟩ := hp.parts
  obtain ⟨na, hna⟩ : ∃ n, ars.length = n := ⟨_, rfl⟩
  obtain ⟨np, hnp⟩ : ∃ n, ps.length = n := ⟨_, rfl⟩
  rw [hna, hnp] at hp ⊢
  have HP := Lib.hid hp; have HN := Lib.hid hn; have HS := Lib.hid hs
  obtain ⟨ans, hans⟩ : ∃ a, ordB ars ps xs = a := ⟨_, rfl⟩
  rw [hans]
  obtain ⟨pb, hpb⟩ : ∃ a, progB ars ps = a := ⟨_, rfl⟩
  have HANS := Lib.hid hans; have HPB := Lib.hid hpb
  clear hp hn hs hna hnp hans hpb
  go_enter Tryz.func75, Tryz.ntmps75
  go_wp2_with (fail)
  obtain ⟨W0, hW0⟩ : ∃ W0, w.alloc (.cells #[.slice qa na ca, .slice qp np cp] 32) = W0 := ⟨_, rfl⟩
  have E0 : Hid (Ext w W0) := Lib.hid (by rw [← hW0]; exact (Ext.refl w).alloc _)
  have B0 := Lib.hid (show W0.heap[w.heap.size]? = some (.cells #[.slice qa na ca, .slice qp np cp] 32 (0, 0)) by rw [← hW0]; exact blk_at rfl)
  rw [hW0]
  clear hW0
  refine (specProgramValid_any _ ars ps _ (HP.out.ext E0.out)).mono ?_
  rw [HPB.out]
  rintro e w1 ⟨rfl, hE1⟩
  have E1 := Lib.hid (E0.out.trans hE1); have B1 := Lib.hid (hE1.blk B0.out)
  clear hE1
  cases pb with
  | false =>
    have HR : Hid (ans = false) := Lib.hid (by rw [← HANS.out]; unfold ordB; rw [HPB.out]; rfl)
    go_wp2
    go_ret
    exact ⟨ret_bool HR.out.symm, E1.out⟩
  | true =>
    obtain ⟨y0, y1, -, -⟩ := blk2 B1.out
    go_wp2_with (fail)
    refine (l4Instances_any _ ars ps _ (HP.out.ext E1.out) HPB.out).mono ?_
    rintro e w2 ⟨⟨q, c2, rfl, -⟩, hE2⟩
    have hM := insM_120 HPB.out
    obtain ⟨M, hMM⟩ : ∃ M, (insM ps).length = M := ⟨_, rfl⟩
    rw [hMM] at hM ⊢
    have HMM := Lib.hid hMM; have E2 := Lib.hid (E1.out.trans hE2)
    clear hMM hE2 y0 y1
    go_wp2_with (fail)
    refine (l5Perm_any p n c M xs _ HN.out (HS.out.ext E2.out) (by omega)).mono ?_
    rintro e w3 ⟨rfl, hE3⟩
    have HR : Hid (permB M xs = ans) := Lib.hid (by rw [← HANS.out]; unfold ordB; rw [HPB.out, HMM.out]; rfl)
    have E3 := Lib.hid (E2.out.trans hE3)
    rw [HR.out]
    clear hE3
    go_wp2
    go_ret
    exact ⟨rfl, E3.out⟩

end Go.Proofs.YtbcjllanigmioaaGreat
