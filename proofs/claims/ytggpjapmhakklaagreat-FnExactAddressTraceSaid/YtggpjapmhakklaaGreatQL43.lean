/- The texts G32, joined. No statement is proved here. -/
import Derived.Test.YtggpjapmhakklaaGreatQL45
set_option maxRecDepth 100000
set_option maxHeartbeats 8000000
set_option linter.unusedVariables false
set_option linter.unusedSimpArgs false
namespace Go.Proofs.YtggpjapmhakklaaGreat
open Go.Lib (hid)
open Go.RowKit
theorem markLoopS_sh (B : Nat) (w0 : World) (v : Value) (xs : List Lp) (k : Int) (w : World) (h : LoopsOwn B w0 v xs) (hS : Sh B w0 w) (hk : 0 ≤ k) (hk1 : k + tot cL xs ≤ 1000000000000) :
  Calls Tryz.prog 51 #[v, .int .i64 k] w fun e w' => e = .returned (.int .i64 (k + (tot cL xs : Nat))) ∧ Mk B w0 w w' := by
 obtain ⟨vs, ho, hel⟩ := h
 have hlen := row_len ho
 obtain ⟨p, c, rfl⟩ := row_form ho
 have HO := hid ho; have HM := hid (Mk.refl hS); have HEL := hid hel; clear ho hel hS
 generalize hn : xs.length = n at *
 have HN := hid hn; clear hn
 go_enter Tryz.func51, Tryz.ntmps51
 go_wp2
 go_loopw [1, 5] (fun kk i wr => ∃ j : Nat, j ≤ n ∧ i = .int .i64 j ∧ kk = .int .i64 (k + (tot cL (xs.take j) : Nat)) ∧ Mk B w0 w wr) (fun _ i _ => n - (intOf i).toNat)
 case atStart => exact ⟨0, by omega, rfl, by simp [tot], HM.out⟩
 case round =>
  obtain ⟨j, hj, rfl, rfl, hmk⟩ := hrel
  have HMK := hid hmk; clear hmk
  by_cases hlt : j < n
  ·obtain ⟨g, rfl⟩ := slRow_at HO.out (by omega)
   obtain ⟨x, hx⟩ := get_some (xs := xs) (k := j) (by rw [HN.out]; exact hlt)
   have hnx := tot_next cL hx
   have hat := tot_at cL hx
   rw [show cL x = tot cA x.1 + tot cA x.2 from by rfl] at hnx hat
   obtain ⟨u0, u1, hv0, hv1, hu0, hu1⟩ := HEL.out j x hx
   have HU0 := hid hu0; have HU1 := hid hu1
   obtain ⟨_, ho0, _⟩ := hu0
   obtain ⟨_, ho1, _⟩ := hu1
   obtain ⟨q0, d0, rfl⟩ := row_form ho0
   obtain ⟨q1, d1, rfl⟩ := row_form ho1
   have HC0 := hid (Cl.of HO.out hv0); have HC1 := hid (Cl.of HO.out hv1)
   clear hv0 hv1 ho0 ho1
   generalize tot cL (xs.take j) = t at *
   have HNX := hid hnx; clear hnx hx
   have hl0 := HC0.out.slc HMK.out.sh
   have hgl0 := Nat.lt_of_lt_of_le HC0.out.hi HMK.out.sh.size
   go_wp2_with (fail)
   refine (markAffineS_sh B w0 _ x.1 _ _ HU0.out HMK.out.sh (by omega) (by omega)).mono ?_
   rintro e w1 ⟨rfl, hmk⟩
   have HMK1 := hid (HMK.out.trans hmk); clear hmk
   clear hl0 hgl0
   have hl1 := HC1.out.slc HMK1.out.sh
   have hgl1 := Nat.lt_of_lt_of_le HC1.out.hi HMK1.out.sh.size
   go_wp2_with (fail)
   refine (markAffineS_sh B w0 _ x.2 _ _ HU1.out HMK1.out.sh (by omega) (by omega)).mono ?_
   rintro e w2 ⟨rfl, hmk⟩
   have HMK2 := hid (HMK1.out.trans hmk); clear hmk
   clear hl1 hgl1
   go_wp2
   go_roundw
   case rel => exact ⟨j + 1, by omega, by go_num, by rw [HNX.out]; go_num, HMK2.out⟩
   case measure => simp [intOf]; omega
  ·have e : j = n := by omega
   subst e
   have ht : xs.take j = xs := List.take_of_length_le (by rw [HN.out]; omega)
   rw [ht]
   go_wp2
   go_ret
   exact ⟨rfl, HMK.out⟩
theorem markArrayS_sh (B : Nat) (w0 : World) (v : Value) (xs : List Arr) (k : Int) (w : World) (h : ArrsO B w0 v xs) (hS : Sh B w0 w) (hk : 0 ≤ k) (hk1 : k + tot cAr xs ≤ 1000000000000) :
  Calls Tryz.prog 27 #[v, .int .i64 k] w fun e w' => e = .returned (.int .i64 (k + (tot cAr xs : Nat))) ∧ Mk B w0 w w' := by
 obtain ⟨vs, ho, hel⟩ := h
 have hlen := row_len ho
 obtain ⟨p, c, rfl⟩ := row_form ho
 have HO := hid ho; have HM := hid (Mk.refl hS); have HEL := hid hel; clear ho hel hS
 generalize hn : xs.length = n at *
 have HN := hid hn; clear hn
 go_enter Tryz.func27, Tryz.ntmps27
 go_wp2
 go_loopw [1, 5] (fun kk i wr => ∃ j : Nat, j ≤ n ∧ i = .int .i64 j ∧ kk = .int .i64 (k + (tot cAr (xs.take j) : Nat)) ∧ Mk B w0 w wr) (fun _ i _ => n - (intOf i).toNat)
 case atStart => exact ⟨0, by omega, rfl, by simp [tot], HM.out⟩
 case round =>
  obtain ⟨j, hj, rfl, rfl, hmk⟩ := hrel
  have HMK := hid hmk; clear hmk
  by_cases hlt : j < n
  ·obtain ⟨g, rfl⟩ := slRow_at HO.out (by omega)
   obtain ⟨x, hx⟩ := get_some (xs := xs) (k := j) (by rw [HN.out]; exact hlt)
   have hnx := tot_next cAr hx
   have hat := tot_at cAr hx
   rw [show cAr x = x.2.length + 1 from by rfl] at hnx hat
   obtain ⟨u0, u1, hv0, hv1, rfl, -, hu1⟩ := HEL.out j x hx
   have HU1 := hid hu1
   obtain ⟨q1, d1, rfl⟩ := row_form hu1
   have HC0 := hid (Cl.of HO.out hv0); have HC1 := hid (Cl.of HO.out hv1)
   clear hv0 hv1 hu1
   generalize tot cAr (xs.take j) = t at *
   have HNX := hid hnx; clear hnx hx
   go_wp2_with (fail)
   refine (markText_any _ _ (by omega) (by omega)).mono ?_
   rintro e w1 ⟨⟨str1, rfl⟩, hE⟩
   have HMK1 := hid (HMK.out.ext hE); clear hE
   obtain ⟨hfr0, ⟨vv0, hcc0⟩, hgl0⟩ := HC0.out.open HMK1.out.sh
   have hl1 := HC1.out.slc HMK1.out.sh
   have hgl1 := Nat.lt_of_lt_of_le HC1.out.hi HMK1.out.sh.size
   go_wp2_with (fail)
   refine (markIntS_sh B w0 _ x.2 _ _ HU1.out (HMK1.out.put HC0.out (NoSl.str _) _).sh (by omega) (by omega)).mono ?_
   rintro e w2 ⟨rfl, hmk⟩
   have HMK2 := hid ((HMK1.out.put HC0.out (NoSl.str _) _).trans hmk); clear hmk
   clear hfr0 hcc0 hgl0 hl1 hgl1
   go_wp2
   go_roundw
   case rel => exact ⟨j + 1, by omega, by go_num, by rw [HNX.out]; go_num, HMK2.out⟩
   case measure => simp [intOf]; omega
  ·have e : j = n := by omega
   subst e
   have ht : xs.take j = xs := List.take_of_length_le (by rw [HN.out]; omega)
   rw [ht]
   go_wp2
   go_ret
   exact ⟨rfl, HMK.out⟩
mutual
def cE : Ex → Nat
 | .mk _ _ x _ s ks => 4 + x.1.length + tot cA s + cEs ks
def cEs : List Ex → Nat
 | [] => 0
 | e :: r => cE e + cEs r
end
theorem cE_eq (e : Ex) : cE e = 4 + e.ix.1.length + tot cA e.subs + cEs e.kids := by
 obtain ⟨a, b, x, d, s, ks⟩ := e
 simp only [cE, Ex.ix, Ex.subs, Ex.kids]
theorem cEs_eq (es : List Ex) : cEs es = tot cE es := by
 induction es with
 | nil => simp [cEs, tot]
 | cons e r ih => simp only [cEs, tot, ih]
def cS (s : St) : Nat := 1 + tot cA s.2.1 + cE s.2.2
def cP (p : Pt) : Nat := tot cL p.1 + tot cS p.2
theorem ExO.parts {B : Nat} {w : World} {cs : List Value} {e : Ex} (h : ExO B w cs e) : ∃ u s v, cs = [.int .i64 e.kind, .int .i64 e.num, u, .int .i64 e.ix.2, .string e.arr, s, v] ∧ IntsOwn B w u e.ix.1 ∧ AffsOwn B w s e.subs ∧ ExsO B w v e.kids := by
 cases h with
 | mk kind num k u s xs arr subs p cap kids us vs hu ha hs ho hv hk => exact ⟨u, s, _, rfl, hu, hs, p, cap, us, vs, rfl, ho, hv, hk⟩
def MkEs (B : Nat) (w0 : World) (v : Value) (es : List Ex) : Prop := ∀ (k : Int) (w : World), Sh B w0 w → 0 ≤ k → k + cEs es ≤ 1000000000000 →
 Calls Tryz.prog 83 #[v, .int .i64 k] w fun e w' => e = .returned (.int .i64 (k + (cEs es : Nat))) ∧ Mk B w0 w w'
theorem markExprS_of (B : Nat) (w0 : World) (v : Value) (xs : List Ex) (us : Nat → List Value) (vs : List Value) (ho : w0.ownsRow B 101 7 v xs.length vs)
  (hv : ∀ (i : Nat) (e : Ex), xs[i]? = some e → ∀ (j : Nat) (v : Value), (us i)[j]? = some v → vs[i * 7 + j]? = some v) (hel : ∀ (i : Nat) (e : Ex), xs[i]? = some e → ExO B w0 (us i) e ∧ ∀ v, (us i)[6]? = some v → MkEs B w0 v e.kids) : MkEs B w0 v xs := by
 intro k w hS hk hk1
 rw [cEs_eq] at hk1 ⊢
 have HV := hid hv; clear hv
 have hlen := row_len ho
 obtain ⟨p, c, rfl⟩ := row_form ho
 have HO := hid ho; have HM := hid (Mk.refl hS); have HEL := hid hel; clear ho hel hS
 generalize hn : xs.length = n at *
 have HN := hid hn; clear hn
 go_enter Tryz.func83, Tryz.ntmps83
 go_wp2
 go_loopw [1, 5] (fun kk i wr => ∃ j : Nat, j ≤ n ∧ i = .int .i64 j ∧ kk = .int .i64 (k + (tot cE (xs.take j) : Nat)) ∧ Mk B w0 w wr) (fun _ i _ => n - (intOf i).toNat)
 case atStart => exact ⟨0, by omega, rfl, by simp [tot], HM.out⟩
 case round =>
  obtain ⟨j, hj, rfl, rfl, hmk⟩ := hrel
  have HMK := hid hmk; clear hmk
  by_cases hlt : j < n
  ·obtain ⟨g, rfl⟩ := slRow_at HO.out (by omega)
   obtain ⟨x, hx⟩ := get_some (xs := xs) (k := j) (by rw [HN.out]; exact hlt)
   have hnx := tot_next cE hx
   have hat := tot_at cE hx
   rw [show cE x = 4 + x.ix.1.length + tot cA x.subs + cEs x.kids from by exact cE_eq _] at hnx hat
   obtain ⟨u, s, v6, hcs, hu, hs, ⟨p6, c6, us6, vs6, rfl, -, -, -⟩⟩ := (HEL.out j x hx).1.parts
   have hih := (HEL.out j x hx).2
   have hvv := HV.out j x hx
   rw [hcs] at hvv hih
   have HIH := hid (hih _ rfl)
   have HU2 := hid hu; have HU5 := hid hs
   obtain ⟨_, hos, _⟩ := hs
   obtain ⟨q2, d2, rfl⟩ := row_form hu
   obtain ⟨q5, d5, rfl⟩ := row_form hos
   have HC0 := hid (Cl.of (j := j * 7) HO.out (hvv 0 _ rfl))
   have HC1 := hid (Cl.of (j := j * 7 + 1) HO.out (hvv 1 _ rfl))
   have HC2 := hid (Cl.of (j := j * 7 + 2) HO.out (hvv 2 _ rfl))
   have HC3 := hid (Cl.of (j := j * 7 + 3) HO.out (hvv 3 _ rfl))
   have HC4 := hid (Cl.of (j := j * 7 + 4) HO.out (hvv 4 _ rfl))
   have HC5 := hid (Cl.of (j := j * 7 + 5) HO.out (hvv 5 _ rfl))
   have HC6 := hid (Cl.of (j := j * 7 + 6) HO.out (hvv 6 _ rfl))
   clear hvv hih hcs hu hos
   generalize tot cE (xs.take j) = t at *
   have HNX := hid hnx; clear hnx hx
   obtain ⟨hfr0, ⟨vv0, hcc0⟩, hgl0⟩ := HC0.out.open HMK.out.sh
   obtain ⟨hfr1, ⟨vv1, hcc1⟩, hgl1⟩ := HC1.out.open HMK.out.sh
   have hl2 := HC2.out.slc HMK.out.sh
   have hgl2 := Nat.lt_of_lt_of_le HC2.out.hi HMK.out.sh.size
   go_wp2_with (fail)
   refine (markIntS_sh B w0 _ x.ix.1 _ _ HU2.out ((HMK.out.put HC0.out (NoSl.int _) _).put HC1.out (NoSl.int _) _).sh (by omega) (by omega)).mono ?_
   rintro e w1 ⟨rfl, hmk⟩
   have HMK1 := hid (((HMK.out.put HC0.out (NoSl.int _) _).put HC1.out (NoSl.int _) _).trans hmk); clear hmk
   clear hfr0 hcc0 hgl0 hfr1 hcc1 hgl1 hl2 hgl2
   obtain ⟨hfr3, ⟨vv3, hcc3⟩, hgl3⟩ := HC3.out.open HMK1.out.sh
   go_wp2_with (fail)
   refine (markText_any _ _ (by omega) (by omega)).mono ?_
   rintro e w2 ⟨⟨str2, rfl⟩, hE⟩
   have HMK2 := hid ((HMK1.out.put HC3.out (NoSl.int _) _).ext hE); clear hE
   clear hfr3 hcc3 hgl3
   obtain ⟨hfr4, ⟨vv4, hcc4⟩, hgl4⟩ := HC4.out.open HMK2.out.sh
   have hl5 := HC5.out.slc HMK2.out.sh
   have hgl5 := Nat.lt_of_lt_of_le HC5.out.hi HMK2.out.sh.size
   go_wp2_with (fail)
   refine (markAffineS_sh B w0 _ x.subs _ _ HU5.out (HMK2.out.put HC4.out (NoSl.str _) _).sh (by omega) (by omega)).mono ?_
   rintro e w3 ⟨rfl, hmk⟩
   have HMK3 := hid ((HMK2.out.put HC4.out (NoSl.str _) _).trans hmk); clear hmk
   clear hfr4 hcc4 hgl4 hl5 hgl5
   have hl6 := HC6.out.slc HMK3.out.sh
   have hgl6 := Nat.lt_of_lt_of_le HC6.out.hi HMK3.out.sh.size
   go_wp2_with (fail)
   refine (HIH.out _ _ HMK3.out.sh (by omega) (by omega)).mono ?_
   rintro e w4 ⟨rfl, hmk⟩
   have HMK4 := hid (HMK3.out.trans hmk); clear hmk
   clear hl6 hgl6
   go_wp2
   go_roundw
   case rel => exact ⟨j + 1, by omega, by go_num, by rw [HNX.out]; go_num, HMK4.out⟩
   case measure => simp [intOf]; omega
  ·have e : j = n := by omega
   subst e
   have ht : xs.take j = xs := List.take_of_length_le (by rw [HN.out]; omega)
   rw [ht]
   go_wp2
   go_ret
   exact ⟨rfl, HMK.out⟩
theorem ExO.marks {B : Nat} {w0 : World} {cs : List Value} {e : Ex} (h : ExO B w0 cs e) : ∀ v, cs[6]? = some v → MkEs B w0 v e.kids := by
 induction h with
 | mk kind num k u s xs arr subs p cap kids us vs hu ha hs ho hv hk ih =>
  intro v hv6
  simp only [List.getElem?_cons_succ, List.getElem?_cons_zero, Option.some.injEq] at hv6
  subst hv6
  exact markExprS_of B w0 _ kids us vs ho hv (fun i e hi => ⟨hk i e hi, ih i e hi⟩)
theorem markStmtS_sh (B : Nat) (w0 : World) (v : Value) (xs : List St) (k : Int) (w : World) (h : StmtsO B w0 v xs) (hS : Sh B w0 w) (hk : 0 ≤ k) (hk1 : k + tot cS xs ≤ 1000000000000) :
  Calls Tryz.prog 52 #[v, .int .i64 k] w fun e w' => e = .returned (.int .i64 (k + (tot cS xs : Nat))) ∧ Mk B w0 w w' := by
 obtain ⟨p, c, us, vs, rfl, ho, hv, hel⟩ := h
 have HV := hid hv; clear hv
 have hlen := row_len ho
 have HO := hid ho; have HM := hid (Mk.refl hS); have HEL := hid hel; clear ho hel hS
 generalize hn : xs.length = n at *
 have HN := hid hn; clear hn
 go_enter Tryz.func52, Tryz.ntmps52
 go_wp2
 go_loopw [1, 5] (fun kk i wr => ∃ j : Nat, j ≤ n ∧ i = .int .i64 j ∧ kk = .int .i64 (k + (tot cS (xs.take j) : Nat)) ∧ Mk B w0 w wr) (fun _ i _ => n - (intOf i).toNat)
 case atStart => exact ⟨0, by omega, rfl, by simp [tot], HM.out⟩
 case round =>
  obtain ⟨j, hj, rfl, rfl, hmk⟩ := hrel
  have HMK := hid hmk; clear hmk
  by_cases hlt : j < n
  ·obtain ⟨g, rfl⟩ := slRow_at HO.out (by omega)
   obtain ⟨x, hx⟩ := get_some (xs := xs) (k := j) (by rw [HN.out]; exact hlt)
   have hnx := tot_next cS hx
   have hat := tot_at cS hx
   rw [show cS x = 1 + tot cA x.2.1 + (4 + x.2.2.ix.1.length + tot cA x.2.2.subs + cEs x.2.2.kids) from by simp [cE_eq, cS]] at hnx hat
   have hvv := HV.out j x hx
   obtain ⟨s1, cs, hcs, -, hs1, hex⟩ := HEL.out j x hx
   obtain ⟨u, s, v8, hcs2, hu, hs, ⟨p8, c8, us8, vs8, rfl, -, -, -⟩⟩ := hex.parts
   have hih := hex.marks
   rw [hcs2] at hcs hih
   have HIH := hid (hih _ rfl)
   have hus : us j = [.string x.1, s1, .int .i64 x.2.2.kind, .int .i64 x.2.2.num, u, .int .i64 x.2.2.ix.2, .string x.2.2.arr, s, .slice p8 x.2.2.kids.length c8] := by simpa using hcs
   rw [hus] at hvv
   have HU1 := hid hs1; have HU4 := hid hu; have HU7 := hid hs
   obtain ⟨_, hos1, _⟩ := hs1
   obtain ⟨_, hos, _⟩ := hs
   obtain ⟨q1, d1, rfl⟩ := row_form hos1
   obtain ⟨q4, d4, rfl⟩ := row_form hu
   obtain ⟨q7, d7, rfl⟩ := row_form hos
   have HC0 := hid (Cl.of (j := j * 9) HO.out (hvv 0 _ rfl))
   have HC1 := hid (Cl.of (j := j * 9 + 1) HO.out (hvv 1 _ rfl))
   have HC2 := hid (Cl.of (j := j * 9 + 2) HO.out (hvv 2 _ rfl))
   have HC3 := hid (Cl.of (j := j * 9 + 3) HO.out (hvv 3 _ rfl))
   have HC4 := hid (Cl.of (j := j * 9 + 4) HO.out (hvv 4 _ rfl))
   have HC5 := hid (Cl.of (j := j * 9 + 5) HO.out (hvv 5 _ rfl))
   have HC6 := hid (Cl.of (j := j * 9 + 6) HO.out (hvv 6 _ rfl))
   have HC7 := hid (Cl.of (j := j * 9 + 7) HO.out (hvv 7 _ rfl))
   have HC8 := hid (Cl.of (j := j * 9 + 8) HO.out (hvv 8 _ rfl))
   clear hvv hih hcs hcs2 hus hex hu hos hos1
   generalize tot cS (xs.take j) = t at *
   have HNX := hid hnx; clear hnx hx
   go_wp2_with (fail)
   refine (markText_any _ _ (by omega) (by omega)).mono ?_
   rintro e w1 ⟨⟨str1, rfl⟩, hE⟩
   have HMK1 := hid (HMK.out.ext hE); clear hE
   obtain ⟨hfr0, ⟨vv0, hcc0⟩, hgl0⟩ := HC0.out.open HMK1.out.sh
   have hl1 := HC1.out.slc HMK1.out.sh
   have hgl1 := Nat.lt_of_lt_of_le HC1.out.hi HMK1.out.sh.size
   go_wp2_with (fail)
   refine (markAffineS_sh B w0 _ x.2.1 _ _ HU1.out (HMK1.out.put HC0.out (NoSl.str _) _).sh (by omega) (by omega)).mono ?_
   rintro e w2 ⟨rfl, hmk⟩
   have HMK2 := hid ((HMK1.out.put HC0.out (NoSl.str _) _).trans hmk); clear hmk
   clear hfr0 hcc0 hgl0 hl1 hgl1
   obtain ⟨hfr2, ⟨vv2, hcc2⟩, hgl2⟩ := HC2.out.open HMK2.out.sh
   obtain ⟨hfr3, ⟨vv3, hcc3⟩, hgl3⟩ := HC3.out.open HMK2.out.sh
   have hl4 := HC4.out.slc HMK2.out.sh
   have hgl4 := Nat.lt_of_lt_of_le HC4.out.hi HMK2.out.sh.size
   go_wp2_with (fail)
   refine (markIntS_sh B w0 _ x.2.2.ix.1 _ _ HU4.out ((HMK2.out.put HC2.out (NoSl.int _) _).put HC3.out (NoSl.int _) _).sh (by omega) (by omega)).mono ?_
   rintro e w3 ⟨rfl, hmk⟩
   have HMK3 := hid (((HMK2.out.put HC2.out (NoSl.int _) _).put HC3.out (NoSl.int _) _).trans hmk); clear hmk
   clear hfr2 hcc2 hgl2 hfr3 hcc3 hgl3 hl4 hgl4
   obtain ⟨hfr5, ⟨vv5, hcc5⟩, hgl5⟩ := HC5.out.open HMK3.out.sh
   go_wp2_with (fail)
   refine (markText_any _ _ (by omega) (by omega)).mono ?_
   rintro e w4 ⟨⟨str4, rfl⟩, hE⟩
   have HMK4 := hid ((HMK3.out.put HC5.out (NoSl.int _) _).ext hE); clear hE
   clear hfr5 hcc5 hgl5
   obtain ⟨hfr6, ⟨vv6, hcc6⟩, hgl6⟩ := HC6.out.open HMK4.out.sh
   have hl7 := HC7.out.slc HMK4.out.sh
   have hgl7 := Nat.lt_of_lt_of_le HC7.out.hi HMK4.out.sh.size
   go_wp2_with (fail)
   refine (markAffineS_sh B w0 _ x.2.2.subs _ _ HU7.out (HMK4.out.put HC6.out (NoSl.str _) _).sh (by omega) (by omega)).mono ?_
   rintro e w5 ⟨rfl, hmk⟩
   have HMK5 := hid ((HMK4.out.put HC6.out (NoSl.str _) _).trans hmk); clear hmk
   clear hfr6 hcc6 hgl6 hl7 hgl7
   have hl8 := HC8.out.slc HMK5.out.sh
   have hgl8 := Nat.lt_of_lt_of_le HC8.out.hi HMK5.out.sh.size
   go_wp2_with (fail)
   refine (HIH.out _ _ HMK5.out.sh (by omega) (by omega)).mono ?_
   rintro e w6 ⟨rfl, hmk⟩
   have HMK6 := hid (HMK5.out.trans hmk); clear hmk
   clear hl8 hgl8
   go_wp2
   go_roundw
   case rel => exact ⟨j + 1, by omega, by go_num, by rw [HNX.out]; go_num, HMK6.out⟩
   case measure => simp [intOf]; omega
  ·have e : j = n := by omega
   subst e
   have ht : xs.take j = xs := List.take_of_length_le (by rw [HN.out]; omega)
   rw [ht]
   go_wp2
   go_ret
   exact ⟨rfl, HMK.out⟩
theorem markPartS_sh (B : Nat) (w0 : World) (v : Value) (xs : List Pt) (k : Int) (w : World) (h : PartsO B w0 v xs) (hS : Sh B w0 w) (hk : 0 ≤ k) (hk1 : k + tot cP xs ≤ 1000000000000) :
  Calls Tryz.prog 28 #[v, .int .i64 k] w fun e w' => e = .returned (.int .i64 (k + (tot cP xs : Nat))) ∧ Mk B w0 w w' := by
 obtain ⟨vs, ho, hel⟩ := h
 have hlen := row_len ho
 obtain ⟨p, c, rfl⟩ := row_form ho
 have HO := hid ho; have HM := hid (Mk.refl hS); have HEL := hid hel; clear ho hel hS
 generalize hn : xs.length = n at *
 have HN := hid hn; clear hn
 go_enter Tryz.func28, Tryz.ntmps28
 go_wp2
 go_loopw [1, 5] (fun kk i wr => ∃ j : Nat, j ≤ n ∧ i = .int .i64 j ∧ kk = .int .i64 (k + (tot cP (xs.take j) : Nat)) ∧ Mk B w0 w wr) (fun _ i _ => n - (intOf i).toNat)
 case atStart => exact ⟨0, by omega, rfl, by simp [tot], HM.out⟩
 case round =>
  obtain ⟨j, hj, rfl, rfl, hmk⟩ := hrel
  have HMK := hid hmk; clear hmk
  by_cases hlt : j < n
  ·obtain ⟨g, rfl⟩ := slRow_at HO.out (by omega)
   obtain ⟨x, hx⟩ := get_some (xs := xs) (k := j) (by rw [HN.out]; exact hlt)
   have hnx := tot_next cP hx
   have hat := tot_at cP hx
   rw [show cP x = tot cL x.1 + tot cS x.2 from by rfl] at hnx hat
   obtain ⟨u0, u1, hv0, hv1, hu0, hu1⟩ := HEL.out j x hx
   have HU0 := hid hu0; have HU1 := hid hu1
   obtain ⟨_, ho0, _⟩ := hu0
   obtain ⟨_, _, _, _, rfl, _⟩ := hu1
   obtain ⟨q0, d0, rfl⟩ := row_form ho0
   have HC0 := hid (Cl.of HO.out hv0); have HC1 := hid (Cl.of HO.out hv1)
   clear hv0 hv1 ho0
   generalize tot cP (xs.take j) = t at *
   have HNX := hid hnx; clear hnx hx
   have hl0 := HC0.out.slc HMK.out.sh
   have hgl0 := Nat.lt_of_lt_of_le HC0.out.hi HMK.out.sh.size
   go_wp2_with (fail)
   refine (markLoopS_sh B w0 _ x.1 _ _ HU0.out HMK.out.sh (by omega) (by omega)).mono ?_
   rintro e w1 ⟨rfl, hmk⟩
   have HMK1 := hid (HMK.out.trans hmk); clear hmk
   clear hl0 hgl0
   have hl1 := HC1.out.slc HMK1.out.sh
   have hgl1 := Nat.lt_of_lt_of_le HC1.out.hi HMK1.out.sh.size
   go_wp2_with (fail)
   refine (markStmtS_sh B w0 _ x.2 _ _ HU1.out HMK1.out.sh (by omega) (by omega)).mono ?_
   rintro e w2 ⟨rfl, hmk⟩
   have HMK2 := hid (HMK1.out.trans hmk); clear hmk
   clear hl1 hgl1
   go_wp2
   go_roundw
   case rel => exact ⟨j + 1, by omega, by go_num, by rw [HNX.out]; go_num, HMK2.out⟩
   case measure => simp [intOf]; omega
  ·have e : j = n := by omega
   subst e
   have ht : xs.take j = xs := List.take_of_length_le (by rw [HN.out]; omega)
   rw [ht]
   go_wp2
   go_ret
   exact ⟨rfl, HMK.out⟩
def cPr (ars : List Arr) (ps : List Pt) : Nat := tot cAr ars + tot cP ps
theorem markProgram_sh (B : Nat) (w0 : World) (v : Value) (ars : List Arr) (ps : List Pt) (k : Int) (w : World) (h : PrO B w0 v ars ps) (hS : Sh B w0 w) (hk : 0 ≤ k) (hk1 : k + cPr ars ps ≤ 1000000000000) :
  Calls Tryz.prog 11 #[v, .int .i64 k] w fun e w' => e = .returned (.int .i64 (k + (cPr ars ps : Nat))) ∧ Mk B w0 w w' := by
 obtain ⟨u0, u1, rfl, ha, hp⟩ := h
 have HA := hid ha; have HP := hid hp; have HM := hid (Mk.refl hS)
 obtain ⟨_, ho0, _⟩ := ha
 obtain ⟨_, ho1, _⟩ := hp
 obtain ⟨q0, d0, rfl⟩ := row_form ho0
 obtain ⟨q1, d1, rfl⟩ := row_form ho1
 have hc : cPr ars ps = tot cAr ars + tot cP ps := rfl
 rw [hc] at hk1 ⊢
 clear ho0 ho1 hc hS
 go_enter Tryz.func11, Tryz.ntmps11
 go_wp2_with (fail)
 have hE0 : Ext w (w.alloc (.cells #[.slice q0 ars.length d0, .slice q1 ps.length d1] 32)) := (Ext.refl w).alloc _
 refine (markArrayS_sh B w0 _ ars _ _ HA.out (HM.out.ext hE0).sh (by omega) (by omega)).mono ?_
 rintro e w1 ⟨rfl, hmk⟩
 have hsz := HM.out.sh.size
 have hb := hmk.lv.block w.heap.size (by rw [World.size_alloc]; omega) (fun h => by omega)
 have hc1 : w1.cell? ⟨w.heap.size, 1, none⟩ = some (.slice q1 ps.length d1) := by rw [World.cell?_of_block hb]; simp [go_sem]
 have hgl : w.heap.size < w1.heap.size := by have := hmk.lv.size; rw [World.size_alloc] at this; omega
 have HM1 := hid ((HM.out.ext hE0).trans hmk); clear hmk hE0 hsz hb
 go_wp2_with (fail)
 refine (markPartS_sh B w0 _ ps _ _ HP.out HM1.out.sh (by omega) (by omega)).mono ?_
 rintro e w2 ⟨rfl, hmk⟩
 have HM2 := hid (HM1.out.trans hmk); clear hmk hc1 hgl
 go_wp2
 go_ret
 refine ⟨?_, HM2.out⟩
 rw [show (k + ((tot cAr ars + tot cP ps : Nat) : Int)) = k + (tot cAr ars : Nat) + (tot cP ps : Nat) from by omega]
 rfl
end Go.Proofs.YtggpjapmhakklaaGreat
