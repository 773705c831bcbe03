/- The texts S11 N9 S12, joined. No statement is proved here. -/
import Derived.Test.YtggpjapmhakklaaGreatQL23
import Derived.Lib.Bytealg
import Derived.Test.YtggpjapmhakklaaGreatQL35
set_option maxRecDepth 100000
set_option maxHeartbeats 8000000
set_option linter.unusedVariables false
set_option linter.unusedSimpArgs false
namespace Go.Proofs.YtggpjapmhakklaaGreat
open Go.Lib (hid)
open Go.RowKit
theorem idxB_arr (b : UInt8) : arrB ⟨#[b]⟩ = decide (0 ≤ Lib.indexByte [65, 66, 67, 68] b) := by
 have h : ∀ n : Fin 256, arrB ⟨#[UInt8.ofNat n.val]⟩ = decide (0 ≤ Lib.indexByte [65, 66, 67, 68] (UInt8.ofNat n.val)) := by decide +kernel
 have := h ⟨b.toNat, b.toNat_lt⟩
 simpa using this
theorem arrayValid_any (arr : ByteArray) (w : World) (ha : arr.size ≤ 9223372036854775807) :
  Calls Tryz.prog 104 #[.string arr] w fun r w' => r = .returned (.bool (arrB arr)) ∧ w = w' := by
 by_cases hsz : arr.size = 1
 ·obtain ⟨b, rfl⟩ := one_byte hsz
  clear hsz ha
  go_enter Tryz.func104, Tryz.ntmps104
  go_wp2
  rw [run_callFunc_extern Tryz.func181 (by kernel_rfl) (by kernel_rfl) (by kernel_rfl) (e := Extern.BytealgIndexByte.indexByte) (by kernel_rfl), Lib.run_indexByteString]
  simp only [Result.andThen]
  rw [Oper.upon_value]
  go_wp2
  go_ret
  exact ⟨ret_bool (idxB_arr b).symm, rfl⟩
 ·have hb : ((arr.size : Int) == 1) = false := beq_eq_false_iff_ne.2 (by omega)
  have HR := hid (arrB_no hsz); clear hsz
  go_enter Tryz.func104, Tryz.ntmps104
  go_wp2
  go_ret
  exact ⟨ret_bool HR.out.symm, rfl⟩
end Go.Proofs.YtggpjapmhakklaaGreat
namespace Go.Proofs.YtggpjapmhakklaaGreat
open Go.Lib (hid)
open Go.RowKit
theorem eqFuncA_any (p : Option Addr) (n c : Nat) (q : Option Addr) (n' d : Nat) (xs ys : List Aff) (w : World) (hn : xs.length = n) (hn' : ys.length = n') (hs : AffsAt w (.slice p n c) xs) (ht : AffsAt w (.slice q n' d) ys) :
  Calls Tryz.prog 184 #[.slice p n c, .slice q n' d, .func (.func 179) #[] #[]] w fun e w' => e = .returned (.bool (lEqB xs ys)) ∧ Ext w w' := by
 have hm : n ≤ 9223372036854775807 := by obtain ⟨_, _, hv, hm, _⟩ := hs; rw [← hn]; exact hm
 have hm2 : n' ≤ 9223372036854775807 := by obtain ⟨_, _, hv, hm, _⟩ := ht; rw [← hn']; exact hm
 have HS := hid hs; have HT := hid ht; have HN := hid hn; have HN' := hid hn'; clear hs ht hn hn'
 by_cases hne : n' = n
 ·subst hne
  go_enter Tryz.func184, Tryz.ntmps184
  go_wp2
  go_loopw [17] (fun i wr => ∃ k : Nat, k ≤ n' ∧ i = .int .i64 k ∧ xs.take k = ys.take k ∧ Ext w wr) (fun i _ => n' - (intOf i).toNat)
  case atStart => exact ⟨0, by omega, rfl, by simp, Ext.refl w⟩
  case round =>
   obtain ⟨k, hk, rfl, htk, hE⟩ := hrel
   have HK := hid htk; clear htk
   by_cases hlt : k < n'
   ·obtain ⟨x, hx⟩ := get_some (xs := xs) (k := k) (by rw [HN.out]; exact hlt)
    obtain ⟨y, hy⟩ := get_some (xs := ys) (k := k) (by rw [HN'.out]; exact hlt)
    obtain ⟨b, off, q1, m1, rfl, a0, a1, hb, hr⟩ := (HS.out.ext hE).elem hx
    obtain ⟨b', off', q2, m2, rfl, b0, b1, hb', hr'⟩ := (HT.out.ext hE).elem hy
    have HX := hid hx; have HY := hid hy; have HR := hid hr; have HR' := hid hr'; clear hx hy hr hr'
    go_wp2_with (fail)
    refine (AffineSame_any _ _ x.1 y.1 x.2 y.2 _ (HR.out.ext (((Ext.refl wr).alloc _).alloc _)) (HR'.out.ext (((Ext.refl wr).alloc _).alloc _))).mono ?_
    rintro e w3 ⟨rfl, hE3⟩
    have g3 := (((Ext.refl wr).alloc _).alloc _).trans hE3
    clear hE3 a0 a1 b0 b1
    cases hq : affEqB x.1 x.2 y.1 y.2 with
    | true =>
     have e := affEq_iff.1 hq
     go_wp2
     go_roundw
     case rel => exact ⟨k + 1, by omega, by go_num, ltake_eq_next HX.out HY.out HK.out e, hE.trans g3⟩
     case measure => simp [intOf]; omega
    | false =>
     have e := affEq_no hq
     have HE := hid e; clear e
     go_wp2
     go_ret
     exact ⟨ret_bool (lEqB_ne HX.out HY.out HE.out).symm, hE.trans g3⟩
   ·go_wp2
    go_ret
    exact ⟨ret_bool (lEqB_all (by rw [HN.out]; omega) (by rw [HN'.out]; omega) HK.out).symm, hE⟩
 ·have hb : ((n : Int) != n') = true := by simp; omega
  have HNE := hid hne; clear hne
  go_enter Tryz.func184, Tryz.ntmps184
  go_wp2
  go_ret
  exact ⟨ret_bool (lEqB_len (by rw [HN.out, HN'.out]; exact fun e => HNE.out e.symm)).symm, Ext.refl w⟩
end Go.Proofs.YtggpjapmhakklaaGreat
namespace Go.Proofs.YtggpjapmhakklaaGreat
open Go.Lib (hid)
open Go.RowKit
theorem AffsAt.zero (w : World) : AffsAt w (.slice none 0 0) [] := ⟨none, 0, rfl, by simp, fun i x h => by simp at h⟩
theorem IntsAt.zero (w : World) : IntsAt w (.slice none 0 0) [] := ⟨none, 0, rfl, by simp, fun i x h => by simp at h⟩
theorem lEqB_nil {xs : List Aff} : lEqB xs [] = decide (xs.length = 0) := by
 cases xs with
 | nil => rfl
 | cons x l => simp [lEqB]
theorem affEq_none (xs : List Int) (k : Int) : affEqB xs k [] 0 = noneB (xs, k) := by
 cases xs with
 | nil => simp [affEqB, noneB, eqB]
 | cons x l => simp [affEqB, noneB, eqB]
theorem accSameZ_any (arr : ByteArray) (s : Value) (subs : List Aff) (w : World) (hs : AffsAt w s subs) :
  Calls Tryz.prog 180 #[.agg #[.string arr, s], .agg #[.string ⟨#[]⟩, .slice none 0 0]] w fun e w' => e = .returned (.bool (emptyB arr subs)) ∧ Ext w w' := by
 obtain ⟨p, c, rfl, hm⟩ := hs.form
 have HS := hid hs; clear hs
 by_cases ha : arr.toList = []
 ·have HR : Hid (emptyB arr subs = lEqB subs []) := hid (by simp only [emptyB]; rw [lEqB_nil, decide_eq_true ha]; rfl)
  go_enter Tryz.func180, Tryz.ntmps180
  go_wp2_with (fail)
  refine (eqFuncA_any _ _ _ _ _ _ subs [] _ rfl rfl (HS.out.ext (((Ext.refl w).alloc _).alloc _)) (AffsAt.zero _)).mono ?_
  rintro e w1 ⟨rfl, hE⟩
  have E1 := hid ((((Ext.refl w).alloc _).alloc _).trans hE); clear hE
  go_wp2
  go_ret
  exact ⟨ret_bool HR.out.symm, E1.out⟩
 ·have HR : Hid (emptyB arr subs = false) := hid (by simp only [emptyB]; rw [decide_eq_false ha]; rfl)
  have hb : arr.toList.isEmpty = false := by simpa using ha
  go_enter Tryz.func180, Tryz.ntmps180
  go_wp2
  go_ret
  exact ⟨ret_bool HR.out.symm, ((Ext.refl w).alloc _).alloc _⟩
def bareB (num : Int) (ix : Aff) (arr : ByteArray) (subs : List Aff) (n : Nat) : Bool := decide (num = 0) && (noneB ix && (emptyB arr subs && decide (n = 0)))
theorem sameZ_any (kind num k : Int) (u s v : Value) (xs : List Int) (arr : ByteArray) (subs : List Aff) (n : Nat) (w : World) (hu : IntsAt w u xs) (hs : AffsAt w s subs) (hv : ∃ p c, v = .slice p n c) (hn : n ≤ 9223372036854775807) :
  Calls Tryz.prog 172 #[.agg #[.int .i64 kind, .int .i64 num, u, .int .i64 k, .string arr, s, v], .agg #[.int .i64 kind, .int .i64 0, .slice none 0 0, .int .i64 0, .string ⟨#[]⟩, .slice none 0 0, .slice none 0 0]] w
   fun e w' => e = .returned (.bool (bareB num (xs, k) arr subs n)) ∧ Ext w w' := by
 obtain ⟨pu, cu, rfl, hmu, -⟩ := id hu
 obtain ⟨ps, cs, rfl, hms⟩ := hs.form
 obtain ⟨pv, cv, rfl⟩ := hv
 have HU := hid hu; have HS := hid hs; clear hu hs
 by_cases h1 : num = 0
 ·subst h1
  obtain ⟨q, hq⟩ : ∃ q, noneB (xs, k) = q := ⟨_, rfl⟩
  have HQ := hid hq; clear hq
  go_enter Tryz.func172, Tryz.ntmps172
  go_wp2_with (fail)
  refine (AffineSame_any _ _ xs [] k 0 _ (HU.out.ext (((Ext.refl w).alloc _).alloc _)) (IntsAt.zero _)).mono ?_
  rw [affEq_none, HQ.out]
  rintro e W1 ⟨rfl, hE⟩
  have B1 := hid (hE.blk (g := w.heap.size) (blk_old (blk_at rfl)))
  have B2 := hid (hE.blk (g := w.heap.size + 1) (blk_at (by simp)))
  have E1 := hid ((((Ext.refl w).alloc _).alloc _).trans hE); clear hE
  obtain ⟨-, -, -, -, x4, x5, x6⟩ := blk7 B1.out
  obtain ⟨-, -, -, -, y4, y5, y6⟩ := blk7 B2.out
  cases q with
  | false =>
   have HR : Hid (bareB 0 (xs, k) arr subs n = false) := hid (by simp only [bareB, HQ.out]; simp)
   go_wp2
   go_ret
   exact ⟨ret_bool HR.out.symm, E1.out⟩
  | true =>
   obtain ⟨r, hr⟩ : ∃ r, emptyB arr subs = r := ⟨_, rfl⟩
   have HRR := hid hr; clear hr
   go_wp2_with (fail)
   refine (accSameZ_any arr _ subs _ (HS.out.ext E1.out)).mono ?_
   rw [HRR.out]
   rintro e W2 ⟨rfl, hE⟩
   have B3 := hid (hE.blk B1.out); have B4 := hid (hE.blk B2.out)
   have E2 := hid (E1.out.trans hE); clear hE x4 x5 x6 y4 y5 y6
   obtain ⟨-, -, -, -, x4, x5, x6⟩ := blk7 B3.out
   obtain ⟨-, -, -, -, y4, y5, y6⟩ := blk7 B4.out
   cases r with
   | false =>
    have HR : Hid (bareB 0 (xs, k) arr subs n = false) := hid (by simp only [bareB, HQ.out, HRR.out]; simp)
    go_wp2
    go_ret
    exact ⟨ret_bool HR.out.symm, E2.out⟩
   | true =>
    by_cases h0 : n = 0
    ·subst h0
     have HR : Hid (bareB 0 (xs, k) arr subs 0 = true) := hid (by simp only [bareB, HQ.out, HRR.out]; simp)
     go_wp2
     go_ret
     exact ⟨ret_bool HR.out.symm, E2.out⟩
    ·have hb : ((n : Int) == 0) = false := beq_eq_false_iff_ne.2 (by omega)
     have HR : Hid (bareB 0 (xs, k) arr subs n = false) := hid (by simp only [bareB, HQ.out, HRR.out]; simp [h0])
     clear h0
     go_wp2
     go_ret
     exact ⟨ret_bool HR.out.symm, E2.out⟩
 ·have hb : (num == 0) = false := by simp [h1]
  have HR : Hid (bareB num (xs, k) arr subs n = false) := hid (by simp only [bareB]; rw [decide_eq_false h1]; rfl)
  clear h1
  go_enter Tryz.func172, Tryz.ntmps172
  go_wp2
  go_ret
  exact ⟨ret_bool HR.out.symm, ((Ext.refl w).alloc _).alloc _⟩
theorem bare_any (kind num k : Int) (u s v : Value) (xs : List Int) (arr : ByteArray) (subs : List Aff) (n : Nat) (w : World) (hu : IntsAt w u xs) (hs : AffsAt w s subs) (hv : ∃ p c, v = .slice p n c) (hn : n ≤ 9223372036854775807) :
  Calls Tryz.prog 160 #[.agg #[.int .i64 kind, .int .i64 num, u, .int .i64 k, .string arr, s, v]] w
   fun e w' => e = .returned (.bool (bareB num (xs, k) arr subs n)) ∧ Ext w w' := by
 obtain ⟨pu, cu, rfl, hmu, -⟩ := id hu
 obtain ⟨ps, cs, rfl, hms⟩ := hs.form
 obtain ⟨pv, cv, rfl⟩ := hv
 have HU := hid hu; have HS := hid hs; clear hu hs
 go_enter Tryz.func160, Tryz.ntmps160
 go_wp2_with (fail)
 refine (sameZ_any kind num k _ _ _ xs arr subs n _ (HU.out.ext ((Ext.refl w).alloc _)) (HS.out.ext ((Ext.refl w).alloc _)) ⟨_, _, rfl⟩ hn).mono ?_
 rintro e W1 ⟨rfl, hE⟩
 have E1 := hid (((Ext.refl w).alloc _).trans hE); clear hE
 go_wp2
 go_ret
 exact ⟨rfl, E1.out⟩
end Go.Proofs.YtggpjapmhakklaaGreat
