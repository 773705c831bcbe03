/- The texts G23, joined. No statement is proved here. -/
import Derived.Test.YtbcjllanigmioaaGreatK22
import Derived.Test.YtbcjllanigmioaaGreatK49
import Derived.Laws.MakeOwn
/- Orders: each index once (model and program). No statement is proved here. -/
namespace Go.Proofs.YtbcjllanigmioaaGreat
open Go.RowKit

/-- Each number of the list is an index below n that is not among those before it. -/
def permF (n : Nat) : List Int → List Int → Bool
  | _, [] => true
  | s, x :: r => if 0 ≤ x ∧ x < n ∧ x ∉ s then permF n (s ++ [x]) r else false
def permB (n : Nat) (xs : List Int) : Bool := permF n [] xs && decide (xs.length = n)
theorem permF_no {n : Nat} {xs : List Int} {k : Nat} {x : Int} (hx : xs[k]? = some x) (h : permF n (xs.take k) (xs.drop k) = permF n [] xs) (hb : ¬ (0 ≤ x ∧ x < n ∧ x ∉ xs.take k)) : permF n [] xs = false := by
  rw [drop_consC hx] at h
  simp only [permF] at h
  rw [if_neg hb] at h
  exact h.symm
theorem permF_yes {n : Nat} {xs : List Int} {k : Nat} {x : Int} (hx : xs[k]? = some x) (h : permF n (xs.take k) (xs.drop k) = permF n [] xs) (hb : 0 ≤ x ∧ x < n ∧ x ∉ xs.take k) : permF n (xs.take (k + 1)) (xs.drop (k + 1)) = permF n [] xs := by
  rw [drop_consC hx] at h
  simp only [permF] at h
  rw [if_pos hb, ← take_next hx] at h
  exact h
theorem permF_end {n : Nat} {xs : List Int} {k : Nat} (hk : xs.length ≤ k) (h : permF n (xs.take k) (xs.drop k) = permF n [] xs) : permF n [] xs = true := by
  rw [List.drop_eq_nil_of_le hk] at h
  exact h.symm
/-- The flags of the numbers that have been seen. -/
def flg (n : Nat) (s : List Int) : List Bool := (List.range n).map (fun (j : Nat) => decide ((j : Int) ∈ s))
theorem flg_get {n m : Nat} (s : List Int) (h : m < n) : (flg n s)[m]? = some (decide ((m : Int) ∈ s)) := by
  simp [flg, List.getElem?_map, List.getElem?_range h]
theorem flg_set (n m : Nat) (s : List Int) : (flg n s).set m true = flg n (s ++ [(m : Int)]) := by
  refine List.ext_getElem? (fun j => ?_)
  rw [List.getElem?_set]
  by_cases hj : j < n
  · rw [flg_get _ hj, flg_get _ hj]
    by_cases e : m = j
    · subst e; simp [flg, hj]
    · rw [if_neg e]
      have : (j : Int) ≠ (m : Int) := by omega
      simp [this]
  · have h1 : (flg n s)[j]? = none := List.getElem?_eq_none (by simp [flg]; omega)
    have h2 : (flg n (s ++ [(m : Int)]))[j]? = none := List.getElem?_eq_none (by simp [flg]; omega)
    rw [h1, h2]
    by_cases e : m = j
    · rw [if_pos e, if_neg (by simp [flg]; omega)]
    · rw [if_neg e]
/-- A block of flags. -/
def FlgAt (w : World) (L : Nat) (l : List Bool) : Prop := w.heap[L]? = some (.cells (l.map Value.bool).toArray 4 (0, 0))
theorem FlgAt.cell {w : World} {L m : Nat} {l : List Bool} {b : Bool} (h : FlgAt w L l) (hm : l[m]? = some b) : w.cell? ⟨L, m, none⟩ = some (.bool b) := by
  unfold FlgAt at h
  simp [World.cell?, h, List.getElem?_map, hm]
theorem FlgAt.frozen {w : World} {L m : Nat} {l : List Bool} (h : FlgAt w L l) : w.frozen? ⟨L, m, none⟩ = false := by
  unfold FlgAt at h
  simp [World.frozen?, h]
theorem FlgAt.set {w : World} {L m : Nat} {l : List Bool} (h : FlgAt w L l) (b : Bool) : FlgAt (w.setCell ⟨L, m, none⟩ (.bool b)) L (l.set m b) := by
  have h1 := heap_setCell_same w L m _ _ (.bool b) h
  unfold FlgAt
  rw [h1]
  simp [List.map_set]
theorem infoBool : (Tryz.prog.info? 4).map (fun i => (i.zero, i.size, i.bytes)) = some (some (.bool false), 1, 1) := by kernel_rfl
theorem made_flags (n : Nat) : madeCells (Value.bool false).cells (n * 1) = ((flg n []).map Value.bool).toArray := by
  unfold madeCells flg
  apply Array.ext'
  simp [Value.cells]
  intro a _
  rw [Nat.mod_one]
  rfl
theorem make_flags (n : Nat) (hn : n ≤ 1048576) (w : World) : (Instr.makeSlice 58 (.int .i64 (n : Int)) (.int .i64 (n : Int))).run Tryz.prog w = .ok (.slice (some ⟨w.heap.size, 0, none⟩) n n) (w.alloc (.cells ((flg n []).map Value.bool).toArray 4)) := by
  obtain ⟨i, hi, hz, hs, hb⟩ := info_parts infoBool
  have h := run_makeSlice (P := Tryz.prog) w 58 4 i (.bool false) Tryz.underlying58 hi hz .i64 .i64 (n : Int) (n : Int) (by omega) (Int.le_refl _) (by rw [hs]; simp; omega) (by rw [hb]; simp; omega) (by omega)
  rw [h, hs, Int.toNat_natCast, made_flags]

set_option linter.unusedVariables false in
set_option linter.unusedSimpArgs false in
set_option maxRecDepth 100000 in
set_option maxHeartbeats 2000000 in
theorem l5Perm_any (p : Option Addr) (n c N : Nat) (xs : List Int) (w : World) (hn : xs.length = n) (hs : IntsAt w (.slice p n c) xs) (hN : N ≤ 1048576) :
    Calls Tryz.prog 118 #[.slice p n c, .int .i64 (N : Int)] w fun e w' => e = .returned (.bool (permB N xs)) ∧ Ext w w' := by
  obtain ⟨hm, hc⟩ := hs.cl
  have HN := Lib.hid hn; have HC := Lib.hid hc
  clear hn hc hs
  obtain ⟨ans, hans⟩ : ∃ a, permB N xs = a := ⟨_, rfl⟩
  rw [hans]
  have HANS := Lib.hid hans; clear hans
  have hmk := make_flags N hN
  go_enter Tryz.func118, Tryz.ntmps118
  go_wp2
  clear hmk
  obtain ⟨W0, hW0⟩ : ∃ W0, w.alloc (.cells ((flg N []).map Value.bool).toArray 4) = W0 := ⟨_, rfl⟩
  have E0 : Hid (Ext w W0) := Lib.hid (by rw [← hW0]; exact (Ext.refl w).alloc _)
  have F0 : Hid (FlgAt W0 w.heap.size (flg N [])) := Lib.hid (by rw [← hW0]; exact blk_at rfl)
  try rw [hW0]
  clear hW0
  go_loopw [6] (fun i wr => ∃ k : Nat, k ≤ n ∧ i = .int .i64 k ∧ permF N (xs.take k) (xs.drop k) = permF N [] xs ∧ FlgAt wr w.heap.size (flg N (xs.take k)) ∧ Ext w wr) (fun i _ => n - (intOf i).toNat)
  case atStart => exact ⟨0, by omega, rfl, rfl, F0.out, E0.out⟩
  case round =>
    obtain ⟨k, hk, rfl, hkz, hF, hE⟩ := hrel
    have HKZ := Lib.hid hkz; have HE := Lib.hid hE; have HF := Lib.hid hF
    clear hkz hE hF
    by_cases hlt : k < n
    · obtain ⟨x, hx⟩ := get_some (xs := xs) (k := k) (by rw [HN.out]; exact hlt)
      obtain ⟨b, off, rfl, hcell⟩ := HC.out k x hx
      have hcl := HE.out.keep hcell
      have HX := Lib.hid hx
      clear hx hcell
      by_cases h0 : x < 0
      · have hb : decide (x < 0) = true := by simpa using h0
        have HR : Hid (ans = false) := Lib.hid (by rw [← HANS.out]; unfold permB; rw [permF_no HX.out HKZ.out (by omega)]; rfl)
        go_wp2
        go_ret
        exact ⟨ret_bool HR.out.symm, HE.out⟩
      · have hb : decide (x < 0) = false := by simpa using h0
        by_cases h1 : (N : Int) ≤ x
        · have hb1 : decide ((N : Int) ≤ x) = true := by simpa using h1
          have HR : Hid (ans = false) := Lib.hid (by rw [← HANS.out]; unfold permB; rw [permF_no HX.out HKZ.out (by omega)]; rfl)
          go_wp2
          go_ret
          exact ⟨ret_bool HR.out.symm, HE.out⟩
        · have hb1 : decide ((N : Int) ≤ x) = false := by simpa using h1
          obtain ⟨m, rfl⟩ : ∃ m : Nat, x = m := ⟨x.toNat, by omega⟩
          have hmN : m < N := by omega
          have hfl := HF.out.cell (flg_get (xs.take k) hmN)
          have hfz : wr.frozen? ⟨w.heap.size, m, none⟩ = false := HF.out.frozen
          obtain ⟨sb, hsb⟩ : ∃ sb, decide ((m : Int) ∈ xs.take k) = sb := ⟨_, rfl⟩
          rw [hsb] at hfl
          have HSB := Lib.hid hsb
          clear hsb h0 h1 hb hb1
          cases sb with
          | true =>
            have HR : Hid (ans = false) := Lib.hid (by rw [← HANS.out]; unfold permB; rw [permF_no HX.out HKZ.out (fun h => h.2.2 (of_decide_eq_true HSB.out))]; rfl)
            go_wp2
            go_ret
            exact ⟨ret_bool HR.out.symm, HE.out⟩
          | false =>
            have HNX := Lib.hid (permF_yes HX.out HKZ.out ⟨by omega, by omega, of_decide_eq_false HSB.out⟩)
            have HF2 : Hid (FlgAt (wr.setCell ⟨w.heap.size, m, none⟩ (.bool true)) w.heap.size (flg N (xs.take (k + 1)))) := Lib.hid (by rw [take_next HX.out, ← flg_set]; exact HF.out.set true)
            have HE2 := Lib.hid (HE.out.setCell (p := ⟨w.heap.size, m, none⟩) (Nat.le_refl _) (.bool true))
            go_wp2
            go_roundw
            case rel => exact ⟨k + 1, by omega, by go_num, HNX.out, HF2.out, HE2.out⟩
            case measure => simp [intOf]; omega
    · obtain rfl : k = n := by omega
      have HP := Lib.hid (permF_end (by rw [HN.out]; omega) HKZ.out)
      by_cases hq : k = N
      · have hb : ((k : Int) == (N : Int)) = true := by simp; omega
        have HR : Hid (ans = true) := Lib.hid (by rw [← HANS.out]; unfold permB; rw [HP.out, HN.out, decide_eq_true hq]; rfl)
        clear hq
        go_wp2
        go_ret
        exact ⟨ret_bool HR.out.symm, HE.out⟩
      · have hb : ((k : Int) == (N : Int)) = false := by simp; omega
        have HR : Hid (ans = false) := Lib.hid (by rw [← HANS.out]; unfold permB; rw [HP.out, HN.out, decide_eq_false hq]; rfl)
        clear hq
        go_wp2
        go_ret
        exact ⟨ret_bool HR.out.symm, HE.out⟩

set_option linter.unusedVariables false in
set_option linter.unusedSimpArgs false in
set_option maxRecDepth 100000 in
set_option maxHeartbeats 2000000 in
theorem hasOrder_any (mo : Option Nat) (T : Int) (u : Value) (q : Option Addr) (N c' : Nat) (p : Option Addr) (n c : Nat) (xs : List Int) (w : World) (hu : ∃ q1 n1 c1, u = .slice q1 n1 c1) (hn : xs.length = n) (hs : IntsAt w (.slice p n c) xs) (hN : N ≤ 1048576) :
    Calls Tryz.prog 76 #[.agg #[.map mo, .int .i64 T, u, .slice q N c'], .slice p n c] w fun e w' => e = .returned (.bool (permB N xs)) ∧ Ext w w' := by
  obtain ⟨q1, n1, c1, rfl⟩ := hu
  obtain ⟨hm, hc⟩ := hs.cl
  have HN := Lib.hid hn; have HC := Lib.hid hc
  clear hn hc hs
  obtain ⟨ans, hans⟩ : ∃ a, permB N xs = a := ⟨_, rfl⟩
  rw [hans]
  have HANS := Lib.hid hans; clear hans
  by_cases hnN : n = N
  · subst hnN
    have hmk := make_flags n hN
    have hne : ((n : Int) != (n : Int)) = false := by simp
    go_enter Tryz.func76, Tryz.ntmps76
    go_wp2
    clear hmk
    obtain ⟨W1, hW1⟩ : ∃ W1, w.alloc (.cells #[.map mo, .int .i64 T, .slice q1 n1 c1, .slice q n c'] 88) = W1 := ⟨_, rfl⟩
    have hz1 : W1.heap.size = w.heap.size + 1 := by rw [← hW1]; simp
    have E1 : Ext w W1 := by rw [← hW1]; exact (Ext.refl w).alloc _
    obtain ⟨W0, hW0⟩ : ∃ W0, W1.alloc (.cells ((flg n []).map Value.bool).toArray 4) = W0 := ⟨_, rfl⟩
    have E0 : Hid (Ext w W0) := Lib.hid (by rw [← hW0]; exact E1.alloc _)
    have F0 : Hid (FlgAt W0 (w.heap.size + 1) (flg n [])) := Lib.hid (by rw [← hW0, ← hz1]; exact blk_at rfl)
    try rw [hW1]
    try rw [hW0]
    clear hW0 hW1 hz1 E1
    go_loopw [19] (fun i wr => ∃ k : Nat, k ≤ n ∧ i = .int .i64 k ∧ permF n (xs.take k) (xs.drop k) = permF n [] xs ∧ FlgAt wr (w.heap.size + 1) (flg n (xs.take k)) ∧ Ext w wr) (fun i _ => n - (intOf i).toNat)
    case atStart => exact ⟨0, by omega, rfl, rfl, F0.out, E0.out⟩
    case round =>
      obtain ⟨k, hk, rfl, hkz, hF, hE⟩ := hrel
      have HKZ := Lib.hid hkz; have HE := Lib.hid hE; have HF := Lib.hid hF
      clear hkz hE hF
      by_cases hlt : k < n
      · obtain ⟨x, hx⟩ := get_some (xs := xs) (k := k) (by rw [HN.out]; exact hlt)
        obtain ⟨b, off, rfl, hcell⟩ := HC.out k x hx
        have hcl := HE.out.keep hcell
        have HX := Lib.hid hx
        clear hx hcell
        by_cases h0 : x < 0
        · have hb : decide (x < 0) = true := by simpa using h0
          have HR : Hid (ans = false) := Lib.hid (by rw [← HANS.out]; unfold permB; rw [permF_no HX.out HKZ.out (by omega)]; rfl)
          go_wp2
          go_ret
          exact ⟨ret_bool HR.out.symm, HE.out⟩
        · have hb : decide (x < 0) = false := by simpa using h0
          by_cases h1 : (n : Int) ≤ x
          · have hb1 : decide ((n : Int) ≤ x) = true := by simpa using h1
            have HR : Hid (ans = false) := Lib.hid (by rw [← HANS.out]; unfold permB; rw [permF_no HX.out HKZ.out (by omega)]; rfl)
            go_wp2
            go_ret
            exact ⟨ret_bool HR.out.symm, HE.out⟩
          · have hb1 : decide ((n : Int) ≤ x) = false := by simpa using h1
            obtain ⟨m, rfl⟩ : ∃ m : Nat, x = m := ⟨x.toNat, by omega⟩
            have hmN : m < n := by omega
            have hfl := HF.out.cell (flg_get (xs.take k) hmN)
            have hfz : wr.frozen? ⟨w.heap.size + 1, m, none⟩ = false := HF.out.frozen
            obtain ⟨sb, hsb⟩ : ∃ sb, decide ((m : Int) ∈ xs.take k) = sb := ⟨_, rfl⟩
            rw [hsb] at hfl
            have HSB := Lib.hid hsb
            clear hsb h0 h1 hb hb1
            cases sb with
            | true =>
              have HR : Hid (ans = false) := Lib.hid (by rw [← HANS.out]; unfold permB; rw [permF_no HX.out HKZ.out (fun h => h.2.2 (of_decide_eq_true HSB.out))]; rfl)
              go_wp2
              go_ret
              exact ⟨ret_bool HR.out.symm, HE.out⟩
            | false =>
              have HNX := Lib.hid (permF_yes HX.out HKZ.out ⟨by omega, by omega, of_decide_eq_false HSB.out⟩)
              have HF2 : Hid (FlgAt (wr.setCell ⟨w.heap.size + 1, m, none⟩ (.bool true)) (w.heap.size + 1) (flg n (xs.take (k + 1)))) := Lib.hid (by rw [take_next HX.out, ← flg_set]; exact HF.out.set true)
              have HE2 := Lib.hid (HE.out.setCell (p := ⟨w.heap.size + 1, m, none⟩) (Nat.le_succ _) (.bool true))
              go_wp2
              go_roundw
              case rel => exact ⟨k + 1, by omega, by go_num, HNX.out, HF2.out, HE2.out⟩
              case measure => simp [intOf]; omega
      · obtain rfl : k = n := by omega
        have HP := Lib.hid (permF_end (by rw [HN.out]; omega) HKZ.out)
        have HR : Hid (ans = true) := Lib.hid (by rw [← HANS.out]; unfold permB; rw [HP.out, HN.out, decide_eq_true rfl]; rfl)
        go_wp2
        go_ret
        exact ⟨ret_bool HR.out.symm, HE.out⟩
  · have hne : ((n : Int) != (N : Int)) = true := by simp; omega
    have HR : Hid (ans = false) := Lib.hid (by rw [← HANS.out]; unfold permB; rw [HN.out, decide_eq_false hnN, Bool.and_false])
    clear hnN
    go_enter Tryz.func76, Tryz.ntmps76
    go_wp2
    go_ret
    exact ⟨ret_bool HR.out.symm, (Ext.refl w).alloc _⟩
end Go.Proofs.YtbcjllanigmioaaGreat
