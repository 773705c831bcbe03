/- The texts U10 U7, joined. No statement is proved here. -/
import Derived.Test.YtccibfldadflkaaK37
import Derived.Test.YtccibfldadflkaaK49
import Derived.Test.YtccibfldadflkaaK23
import Derived.Test.YtccibfldadflkaaK34
import Derived.Test.YtccibfldadflkaaK12
/- The program's LruMisses. No statement is proved here. -/
namespace Go.Proofs.Ytccibfldadflkaa
open Go.RowKit Go.Maps
attribute [local go_sem] Oper.semAt_some

set_option linter.unusedVariables false in
set_option maxRecDepth 100000 in
set_option maxHeartbeats 2000000 in
theorem missesNo_any (p : Option Addr) (n c : Nat) (z : Int) (t : TypeId) (x : Value) (w : World) (hm : n ≤ 9223372036854775807) (h : ¬ (n ≤ 600 ∧ 0 ≤ z ∧ z ≤ 40)) :
    Calls Try.prog 30 #[.slice p n c, .int .i64 z, .iface t x] w fun e w' => e = .returned (.int .i64 (-1)) ∧ Ext w w' := by
  refine (callsIn_wide (n := 6)).1 ?_
  refine callsIn_of_wp_marks Try.func30 rfl trivial ?_ rfl
  simp only [Try.ntmps30, List.size_toArray, List.length_cons, List.length_nil, Nat.reduceAdd, Nat.reduceSub, Array.replicate_succ, Array.replicate_zero, List.push_toArray, List.append_toArray, List.nil_append, List.cons_append]
  by_cases h1 : (600 : Int) < (n : Int)
  · gi_wp2
    refine leaves_marks2 [] _ (by simp) (by simp) (fun W' hW' => ?_)
    exact ⟨.int .i64 (-1), by simp [results, Try.results30, go_sem], rfl, hW'.ext0 (((Ext.refl w).alloc _).alloc _) (by simp)⟩
  · by_cases h2 : z < 0
    · gi_wp2
      refine leaves_marks2 [] _ (by simp) (by simp) (fun W' hW' => ?_)
      exact ⟨.int .i64 (-1), by simp [results, Try.results30, go_sem], rfl, hW'.ext0 (((Ext.refl w).alloc _).alloc _) (by simp)⟩
    · have h3 : (40 : Int) < z := by omega
      gi_wp2
      refine leaves_marks2 [] _ (by simp) (by simp) (fun W' hW' => ?_)
      exact ⟨.int .i64 (-1), by simp [results, Try.results30, go_sem], rfl, hW'.ext0 (((Ext.refl w).alloc _).alloc _) (by simp)⟩

end Go.Proofs.Ytccibfldadflkaa

/- DistinctCells of model and program. No statement is proved here. -/
namespace Go.Proofs.Ytccibfldadflkaa
open Go.RowKit Go.Maps

theorem all_take_has {x : Int} {s : List Int} {k : Nat} {y : Int} (h : s[k]? = some y) (hk : x ∉ s.take k) (hne : y ≠ x) : x ∉ s.take (k + 1) := by
  rw [take_next h, List.mem_append]
  rintro (h1 | h1)
  · exact hk h1
  · simp at h1; exact hne h1.symm

set_option linter.unusedVariables false in
set_option maxHeartbeats 1000000 in
theorem l6Has_ints (p : Option Addr) (n c : Nat) (x : Int) (xs : List Int) (w : World) (hn : xs.length = n) (hs : IntsAt w (.slice p n c) xs) :
    Calls Try.prog 28 #[.slice p n c, .int .i64 x] w fun e w' => e = .returned (.bool (decide (x ∈ xs))) ∧ Ext w w' := by
  obtain ⟨hm, -⟩ := hs.cl
  have HN := Lib.hid hn; have HS := Lib.hid hs
  clear hn hs
  obtain ⟨z, hz⟩ : ∃ z, decide (x ∈ xs) = z := ⟨_, rfl⟩
  rw [hz]
  have HZ := Lib.hid hz; clear hz
  go_enter Try.func28, Try.ntmps28
  go_wp2
  go_loopw [5] (fun iv wr => ∃ k : Nat, k ≤ n ∧ iv = .int .i64 k ∧ x ∉ xs.take k ∧ Ext w wr) (fun iv _ => n - (intOf iv).toNat)
  case atStart => exact ⟨0, by omega, rfl, by simp, Ext.refl w⟩
  case round =>
    obtain ⟨k, hk, rfl, hno, hE⟩ := hrel
    have HNO := Lib.hid hno; have HE := Lib.hid hE
    clear hno hE
    by_cases hlt : k < n
    · obtain ⟨y, hy⟩ := get_some (xs := xs) (k := k) (by rw [HN.out]; exact hlt)
      obtain ⟨-, hc⟩ := (HS.out.ext HE.out).cl
      obtain ⟨b, off, rfl, hcell⟩ := hc k y hy
      have hkI : (k : Int) < (n : Int) := by omega
      by_cases e : y = x
      · have hb : (y == x) = true := by simpa using e
        have HR : Hid (true = z) := Lib.hid (by rw [← HZ.out]; subst e; exact (decide_eq_true (List.mem_of_getElem? hy)).symm)
        clear hc hy e
        go_wp2
        go_ret
        exact ⟨by rw [← HR.out]; rfl, HE.out⟩
      · have hb : (y == x) = false := by simpa using e
        have HN1 := Lib.hid (all_take_has hy HNO.out e)
        clear hc hy
        go_wp2
        go_roundw
        case rel => exact ⟨k + 1, by omega, by go_num, HN1.out, HE.out⟩
        case measure => simp [intOf]; omega
    · obtain rfl : k = n := by omega
      have HR : Hid (false = z) := Lib.hid (by rw [← HZ.out]; have h := HNO.out; rw [List.take_of_length_le (by rw [HN.out]; exact Nat.le_refl _)] at h; exact (decide_eq_false h).symm)
      go_wp2
      go_ret
      exact ⟨by rw [← HR.out]; rfl, HE.out⟩

end Go.Proofs.Ytccibfldadflkaa
