/- The texts G34, joined. No statement is proved here. -/
import Derived.Test.YtbcjllanigmioaaGreatK42
import Derived.Test.YtbcjllanigmioaaGreatK39
/- What a program writes, in ascending order: the model's l5Flagged and WrittenCells. No statement is proved here. -/
namespace Go.Proofs.YtbcjllanigmioaaGreat
open Go.RowKit Go.Maps

/-- The numbers below n that are in s, in ascending order. -/
def fl (n : Nat) (s : List Int) : List Int := ((List.range n).filter (fun (j : Nat) => decide ((j : Int) ∈ s))).map (fun (j : Nat) => (j : Int))
theorem fl_yes {k : Nat} {s : List Int} (h : (k : Int) ∈ s) : fl (k + 1) s = fl k s ++ [(k : Int)] := by simp [fl, List.range_succ, List.filter_append, h]
theorem fl_no {k : Nat} {s : List Int} (h : (k : Int) ∉ s) : fl (k + 1) s = fl k s := by simp [fl, List.range_succ, List.filter_append, h]
theorem fl_len (k : Nat) (s : List Int) : (fl k s).length ≤ k := by
  unfold fl
  rw [List.length_map]
  exact Nat.le_trans (List.length_filter_le _ _) (by simp)
def wrS (ars : List Arr) (ps : List Pt) : List Int := (insM ps).map (fun y => writeCell ars y.2 y.1.2.2)
set_option linter.unusedVariables false in
set_option linter.unusedSimpArgs false in
set_option maxRecDepth 100000 in
set_option maxHeartbeats 2000000 in
theorem l5Flagged_any (L N : Nat) (s : List Int) (w : World) (hF : FlgAt w L (flg N s)) (hN : N ≤ 1048576) :
    Calls Tryz.prog 57 #[.slice (some ⟨L, 0, none⟩) N N] w fun e w' => (∃ v, e = .returned v ∧ IntsOwn w.heap.size w' v (fl N s)) ∧ Ext w w' := by
  obtain ⟨i0, hi, hz0, hz1, hz2⟩ := info_parts infoInt
  have HF := Lib.hid hF; clear hF
  go_enter Tryz.func57, Tryz.ntmps57
  go_wp2
  obtain ⟨W0, hW0⟩ : ∃ W0, w.alloc (.cells #[] 3) = W0 := ⟨_, rfl⟩
  have E0 : Hid (Ext w W0) := Lib.hid (by rw [← hW0]; exact (Ext.refl w).alloc _)
  have O0 : Hid (W0.ownsRow w.heap.size 3 1 (.slice (some ⟨w.heap.size, 0, none⟩) 0 0) 0 []) := Lib.hid (by rw [← hW0]; exact World.ownsRow_made w #[] 0 (Nat.le_refl _) (Nat.zero_le _) rfl)
  try rw [hW0]
  clear hW0
  go_loopw [3, 4] (fun ov iv wr => ∃ (k m : Nat) (po : Option Addr) (co : Nat), k ≤ N ∧ iv = .int .i64 k ∧ ov = .slice po m co ∧ (fl k s).length = m ∧ wr.ownsRow w.heap.size 3 1 (.slice po m co) m ((fl k s).map (Value.int .i64)) ∧ Ext w wr) (fun _ iv _ => N - (intOf iv).toNat)
  case atStart => exact ⟨0, 0, _, _, by omega, rfl, rfl, rfl, O0.out, E0.out⟩
  case round =>
    obtain ⟨k, m, po, co, hk, rfl, rfl, hm, ho, hE⟩ := hrel
    have HM := Lib.hid hm; have HO := Lib.hid ho; have HE := Lib.hid hE
    have hmk : m ≤ k := by rw [← hm]; exact fl_len k s
    clear hm ho hE
    by_cases hlt : k < N
    · have hfl := (show FlgAt wr L (flg N s) from HE.out.blk HF.out).cell (flg_get s hlt)
      obtain ⟨sb, hsb⟩ : ∃ sb, decide ((k : Int) ∈ s) = sb := ⟨_, rfl⟩
      rw [hsb] at hfl
      have HSB := Lib.hid hsb
      clear hsb
      cases sb with
      | false =>
        have HN1 := Lib.hid (fl_no (of_decide_eq_false HSB.out))
        go_wp2
        go_roundw
        case rel => exact ⟨k + 1, m, po, co, by omega, by go_num, rfl, by rw [HN1.out]; exact HM.out, by rw [HN1.out]; exact HO.out, HE.out⟩
        case measure => simp [intOf]; omega
      | true =>
        have HN1 := Lib.hid (fl_yes (of_decide_eq_true HSB.out))
        have HOX := Lib.hid (ownsRow_ext HO.out ((Ext.refl wr).alloc (.cells #[.int .i64 (k : Int)] 3)))
        have hsz : w.heap.size ≤ wr.heap.size := HE.out.size_le
        go_wp2_with (at_builtin; refine wpList_append_own_at _ rfl (.tmp 16) (.tmp 18) 27 rfl w.heap.size 3 i0 (.int .i64 0) 1 8 underSliceInt hi hz0 hz1 hz2 rfl (by decide) (.slice po m co) m _ rfl HOX.out ⟨wr.heap.size, 0, none⟩ 1 1 [.int .i64 (k : Int)] rfl rfl ?c1 ?c2 ?c3 ?c4 ?c5 ?_)
        case c1 => exact one_cell rfl
        case c2 => intro u hu; simp at hu; subst hu; rfl
        case c3 => unfold maxLen; omega
        case c4 => omega
        case c5 => simp; omega
        intro v' w5 hown' hgrow _ hat
        obtain ⟨po', co', rfl⟩ : ∃ po' co', v' = .slice po' (m + 1) co' := by
          rcases hown'.2 with ⟨rfl, hn0⟩ | ⟨g, cap, cur, e, _⟩
          · exact absurd hn0 (by omega)
          · exact ⟨_, cap, e⟩
        have HRW' : Hid (w5.ownsRow w.heap.size 3 1 (.slice po' (m + 1) co') (m + 1) ((fl (k + 1) s).map (Value.int .i64))) := Lib.hid (by rw [HN1.out, List.map_append]; simpa using hown')
        have HE5 := Lib.hid ((HE.out.alloc (.cells #[.int .i64 (k : Int)] 3)).grown hgrow (fun b hb => (HOX.out.lt b hb).1))
        clear hown' hgrow hat
        go_wp2
        go_roundw
        case rel => exact ⟨k + 1, m + 1, _, _, by omega, by go_num, rfl, by rw [HN1.out, List.length_append, HM.out]; rfl, HRW'.out, HE5.out⟩
        case measure => simp [intOf]; omega
    · obtain rfl : k = N := by omega
      go_wp2
      go_ret
      exact ⟨⟨_, rfl, IntsOwn.mk HO.out HM.out⟩, HE.out⟩

theorem InssOwn.setOld {B : Nat} {w : World} {v : Value} {l : List In3} (h : InssOwn B w v l) {p : Addr} (hp : p.block < B) (u : Value) : InssOwn B (w.setCell p u) v l := by
  obtain ⟨vs, ho, he⟩ := h
  refine ⟨vs, ownsRow_setCell_below ho hp u, fun i x hi => ?_⟩
  obtain ⟨u0, u1, u2, a0, a1, a2, b0, b1, b2⟩ := he i x hi
  exact ⟨u0, u1, u2, a0, a1, a2, b0, b1, b2.setOld hp u⟩
theorem write_bd {ars : List Arr} {s : St} {pt : List Int} (hok : ∀ a ∈ ars, arrOkB a = true) (h : cellsOk ars s pt = true) : 0 ≤ writeCell ars s pt ∧ writeCell ars s pt < totN ars := by
  simp only [cellsOk, Bool.and_eq_true, decide_eq_true_eq] at h
  have h1 := cellI_bd s.1 s.2.1 pt (base := 0) hok
  have h2 : cellI s.1 s.2.1 pt 0 ars = writeCell ars s pt := rfl
  rw [h2] at h1
  omega

end Go.Proofs.YtbcjllanigmioaaGreat
