/- The texts U10, joined. No statement is proved here. -/
import Derived.Test.YtggpjapmhakklaaK25
/- The program's LruMisses. No statement is proved here. -/
namespace Go.Proofs.Ytggpjapmhakklaa
open Go.RowKit Go.Maps
attribute [local go_sem] Oper.semAt_some

set_option linter.unusedVariables false in
set_option maxRecDepth 100000 in
set_option maxHeartbeats 2000000 in
theorem missesNo_any (p : Option Addr) (n c : Nat) (z : Int) (t : TypeId) (x : Value) (w : World) (hm : n ≤ 9223372036854775807) (h : ¬ (n ≤ 600 ∧ 0 ≤ z ∧ z ≤ 40)) :
    Calls Try.prog 33 #[.slice p n c, .int .i64 z, .iface t x] w fun e w' => e = .returned (.int .i64 (-1)) ∧ Ext w w' := by
  refine (callsIn_wide (n := 6)).1 ?_
  refine callsIn_of_wp_marks Try.func33 rfl trivial ?_ rfl
  simp only [Try.ntmps33, List.size_toArray, List.length_cons, List.length_nil, Nat.reduceAdd, Nat.reduceSub, Array.replicate_succ, Array.replicate_zero, List.push_toArray, List.append_toArray, List.nil_append, List.cons_append]
  by_cases h1 : (600 : Int) < (n : Int)
  · gi_wp2
    refine leaves_marks2 [] _ (by simp) (by simp) (fun W' hW' => ?_)
    exact ⟨.int .i64 (-1), by simp [results, Try.results33, go_sem], rfl, hW'.ext0 (((Ext.refl w).alloc _).alloc _) (by simp)⟩
  · by_cases h2 : z < 0
    · gi_wp2
      refine leaves_marks2 [] _ (by simp) (by simp) (fun W' hW' => ?_)
      exact ⟨.int .i64 (-1), by simp [results, Try.results33, go_sem], rfl, hW'.ext0 (((Ext.refl w).alloc _).alloc _) (by simp)⟩
    · have h3 : (40 : Int) < z := by omega
      gi_wp2
      refine leaves_marks2 [] _ (by simp) (by simp) (fun W' hW' => ?_)
      exact ⟨.int .i64 (-1), by simp [results, Try.results33, go_sem], rfl, hW'.ext0 (((Ext.refl w).alloc _).alloc _) (by simp)⟩

set_option linter.unusedVariables false in
set_option maxRecDepth 100000 in
set_option maxHeartbeats 2000000 in
theorem LruMisses_any (p : Option Addr) (n c : Nat) (xs : List Int) (z : Int) (w : World) (hn : xs.length = n) (hx : ∀ x ∈ xs, i64 x) (hs : IntsAt w (.slice p n c) xs) :
    Calls Try.prog 11 #[.slice p n c, .int .i64 z] w fun e w' => e = .returned (.int .i64 (lruB xs z)) ∧ Ext w w' := by
  obtain ⟨hm, -⟩ := hs.cl
  have HN := Lib.hid hn; have HS := Lib.hid hs; have HX := Lib.hid hx
  clear hn hs hx
  go_enter Try.func11, Try.ntmps11
  go_wp2_with (fail)
  refine (recentOf_any _).mono ?_
  rintro e w1 ⟨mb, e0, rfl, hrec, hmb, he0, hE⟩
  have HREC := Lib.hid hrec; have HE := Lib.hid hE
  have HSB := Lib.hid (HS.out.ext hE)
  have HPB : Hid (∀ b o, p = some ⟨b, o, none⟩ → 0 < n → b ≠ mb ∧ b ≠ e0) := Lib.hid (fun b o e h0 => by have := HS.out.blk_lt (by rw [HN.out]; exact h0) e; omega)
  have HMB := Lib.hid hmb; have HE0 := Lib.hid he0
  clear hrec hE hmb he0
  go_wp2_with (fail)
  by_cases h : n ≤ 600 ∧ 0 ≤ z ∧ z ≤ 40
  · obtain ⟨h1, h2, h3⟩ := id h
    obtain ⟨Z, rfl⟩ : ∃ Z : Nat, z = Z := ⟨z.toNat, by omega⟩
    have HR : Hid (lruN xs Z n = lruB xs Z) := Lib.hid (by unfold lruB; rw [HN.out, if_pos h])
    refine (missesLru_any p n c Z mb e0 xs _ HN.out h1 (by omega) HX.out HSB.out HREC.out HPB.out).mono ?_
    rintro e w2 ⟨rfl, hl⟩
    have HE2 := Lib.hid (hl.ext0 HE.out (fun b hb h => by have := HMB.out; have := HE0.out; omega))
    clear hl
    go_wp2
    go_ret
    exact ⟨ret_i HR.out, HE2.out⟩
  · have HR : Hid ((-1 : Int) = lruB xs z) := Lib.hid (by unfold lruB; rw [HN.out, if_neg h])
    refine (missesNo_any p n c z _ _ _ hm h).mono ?_
    rintro e w2 ⟨rfl, hE2⟩
    have HE2 := Lib.hid (HE.out.trans hE2)
    clear hE2
    go_wp2
    go_ret
    exact ⟨ret_i HR.out, HE2.out⟩
end Go.Proofs.Ytggpjapmhakklaa
