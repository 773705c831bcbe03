/- The texts G32 Mt, joined. No statement is proved here. -/
import Derived.Test.YtggpjapmhakklaaK48
/- Marks in lists of loops and arrays, of expressions, statements and parts, and in a program of the call's own. (Written by g32.py.) No statement is proved here. -/
namespace Go.Proofs.Ytggpjapmhakklaa
open Go.RowKit

theorem cE_here : True := trivial
mutual
def cE : Ex → Nat
  | .mk _ _ x _ s ks => 4 + x.1.length + tot cA s + cEs ks
def cEs : List Ex → Nat
  | [] => 0
  | e :: r => cE e + cEs r
end
theorem cE_eq (e : Ex) : cE e = 4 + e.ix.1.length + tot cA e.subs + cEs e.kids := by
  have _ := cE_here
  obtain ⟨a, b, x, d, s, ks⟩ := e
  simp only [cE, Ex.ix, Ex.subs, Ex.kids]
theorem cEs_eq (es : List Ex) : cEs es = tot cE es := by
  induction es with
  | nil => simp [cEs, tot]
  | cons e r ih => simp only [cEs, tot, ih]
theorem ExO.parts {B : Nat} {w : World} {cs : List Value} {e : Ex} (h : ExO B w cs e) : ∃ u s v, cs = [.int .i64 e.kind, .int .i64 e.num, u, .int .i64 e.ix.2, .string e.arr, s, v] ∧ IntsOwn B w u e.ix.1 ∧ AffsOwn B w s e.subs ∧ ExsO B w v e.kids := by
  cases h with
  | mk kind num k u s xs arr subs p cap kids us vs hu ha hs ho hv hk => exact ⟨u, s, _, rfl, hu, hs, p, cap, us, vs, rfl, ho, hv, hk⟩
/-- The marks of a list of nodes. -/
def MkEs (B : Nat) (w0 : World) (v : Value) (es : List Ex) : Prop := ∀ (k : Int) (w : World), Sh B w0 w → 0 ≤ k → k + cEs es ≤ 1000000000000 →
  Calls Try.prog 87 #[v, .int .i64 k] w fun e w' => e = .returned (.int .i64 (k + (cEs es : Nat))) ∧ Mk B w0 w w'

set_option maxRecDepth 100000 in
set_option maxHeartbeats 4000000 in
theorem markExprS_of (B : Nat) (w0 : World) (v : Value) (xs : List Ex) (us : Nat → List Value) (vs : List Value) (ho : w0.ownsRow B 48 7 v xs.length vs)
    (hv : ∀ (i : Nat) (e : Ex), xs[i]? = some e → ∀ (j : Nat) (v : Value), (us i)[j]? = some v → vs[i * 7 + j]? = some v) (hel : ∀ (i : Nat) (e : Ex), xs[i]? = some e → ExO B w0 (us i) e ∧ ∀ v, (us i)[6]? = some v → MkEs B w0 v e.kids) : MkEs B w0 v xs := by
  intro k w hS hk hk1
  rw [cEs_eq] at hk1 ⊢
  have HV := Lib.hid hv; clear hv
  have hlen := row_len ho
  obtain ⟨p, c, rfl⟩ := row_form ho
  have HO := Lib.hid ho; have HM := Lib.hid (Mk.refl hS); have HEL := Lib.hid hel; clear ho hel hS
  generalize hn : xs.length = n at *
  have HN := Lib.hid hn; clear hn
  go_enter Try.func87, Try.ntmps87
  go_wp2
  go_loopw [1, 5] (fun kk i wr => ∃ j : Nat, j ≤ n ∧ i = .int .i64 j ∧ kk = .int .i64 (k + (tot cE (xs.take j) : Nat)) ∧ Mk B w0 w wr) (fun _ i _ => n - (intOf i).toNat)
  case atStart => exact ⟨0, by omega, rfl, by simp [tot], HM.out⟩
  case round =>
    obtain ⟨j, hj, rfl, rfl, hmk⟩ := hrel
    have HMK := Lib.hid hmk; clear hmk
    by_cases hlt : j < n
    · obtain ⟨g, rfl⟩ := slRow_at HO.out (by omega)
      obtain ⟨x, hx⟩ := get_some (xs := xs) (k := j) (by rw [HN.out]; exact hlt)
      have hnx := tot_next cE hx
      have hat := tot_at cE hx
      rw [show cE x = 4 + x.ix.1.length + tot cA x.subs + cEs x.kids from by exact cE_eq _] at hnx hat
      obtain ⟨u, s, v6, hcs, hu, hs, ⟨p6, c6, us6, vs6, rfl, -, -, -⟩⟩ := (HEL.out j x hx).1.parts
      have hih := (HEL.out j x hx).2
      have hvv := HV.out j x hx
      rw [hcs] at hvv hih
      have HIH := Lib.hid (hih _ rfl)
      have HU2 := Lib.hid hu; have HU5 := Lib.hid hs
      obtain ⟨_, hos, _⟩ := hs
      obtain ⟨q2, d2, rfl⟩ := row_form hu
      obtain ⟨q5, d5, rfl⟩ := row_form hos
      have HC0 := Lib.hid (Cl.of (j := j * 7) HO.out (hvv 0 _ rfl))
      have HC1 := Lib.hid (Cl.of (j := j * 7 + 1) HO.out (hvv 1 _ rfl))
      have HC2 := Lib.hid (Cl.of (j := j * 7 + 2) HO.out (hvv 2 _ rfl))
      have HC3 := Lib.hid (Cl.of (j := j * 7 + 3) HO.out (hvv 3 _ rfl))
      have HC4 := Lib.hid (Cl.of (j := j * 7 + 4) HO.out (hvv 4 _ rfl))
      have HC5 := Lib.hid (Cl.of (j := j * 7 + 5) HO.out (hvv 5 _ rfl))
      have HC6 := Lib.hid (Cl.of (j := j * 7 + 6) HO.out (hvv 6 _ rfl))
      clear hvv hih hcs hu hos
      generalize tot cE (xs.take j) = t at *
      have HNX := Lib.hid hnx; clear hnx hx
      obtain ⟨hfr0, ⟨vv0, hcc0⟩, hgl0⟩ := HC0.out.open HMK.out.sh
      obtain ⟨hfr1, ⟨vv1, hcc1⟩, hgl1⟩ := HC1.out.open HMK.out.sh
      have hl2 := HC2.out.slc HMK.out.sh
      have hgl2 := Nat.lt_of_lt_of_le HC2.out.hi HMK.out.sh.size
      go_wp2_with (fail)
      refine (markIntS_sh B w0 _ x.ix.1 _ _ HU2.out ((HMK.out.put HC0.out (NoSl.int _) _).put HC1.out (NoSl.int _) _).sh (by omega) (by omega)).mono ?_
      rintro e w1 ⟨rfl, hmk⟩
      have HMK1 := Lib.hid (((HMK.out.put HC0.out (NoSl.int _) _).put HC1.out (NoSl.int _) _).trans hmk); clear hmk
      clear hfr0 hcc0 hgl0 hfr1 hcc1 hgl1 hl2 hgl2
      obtain ⟨hfr3, ⟨vv3, hcc3⟩, hgl3⟩ := HC3.out.open HMK1.out.sh
      go_wp2_with (fail)
      refine (markText_any _ _ (by omega) (by omega)).mono ?_
      rintro e w2 ⟨⟨str2, rfl⟩, hE⟩
      have HMK2 := Lib.hid ((HMK1.out.put HC3.out (NoSl.int _) _).ext hE); clear hE
      clear hfr3 hcc3 hgl3
      obtain ⟨hfr4, ⟨vv4, hcc4⟩, hgl4⟩ := HC4.out.open HMK2.out.sh
      have hl5 := HC5.out.slc HMK2.out.sh
      have hgl5 := Nat.lt_of_lt_of_le HC5.out.hi HMK2.out.sh.size
      go_wp2_with (fail)
      refine (markAffineS_sh B w0 _ x.subs _ _ HU5.out (HMK2.out.put HC4.out (NoSl.str _) _).sh (by omega) (by omega)).mono ?_
      rintro e w3 ⟨rfl, hmk⟩
      have HMK3 := Lib.hid ((HMK2.out.put HC4.out (NoSl.str _) _).trans hmk); clear hmk
      clear hfr4 hcc4 hgl4 hl5 hgl5
      have hl6 := HC6.out.slc HMK3.out.sh
      have hgl6 := Nat.lt_of_lt_of_le HC6.out.hi HMK3.out.sh.size
      go_wp2_with (fail)
      refine (HIH.out _ _ HMK3.out.sh (by omega) (by omega)).mono ?_
      rintro e w4 ⟨rfl, hmk⟩
      have HMK4 := Lib.hid (HMK3.out.trans hmk); clear hmk
      clear hl6 hgl6
      go_wp2
      go_roundw
      case rel => exact ⟨j + 1, by omega, by go_num, by rw [HNX.out]; go_num, HMK4.out⟩
      case measure => simp [intOf]; omega
    · have e : j = n := by omega
      subst e
      have ht : xs.take j = xs := List.take_of_length_le (by rw [HN.out]; omega)
      rw [ht]
      go_wp2
      go_ret
      exact ⟨rfl, HMK.out⟩

theorem ExO.marks {B : Nat} {w0 : World} {cs : List Value} {e : Ex} (h : ExO B w0 cs e) : ∀ v, cs[6]? = some v → MkEs B w0 v e.kids := by
  induction h with
  | mk kind num k u s xs arr subs p cap kids us vs hu ha hs ho hv hk ih =>
    intro v hv6
    simp only [List.getElem?_cons_succ, List.getElem?_cons_zero, Option.some.injEq] at hv6
    subst hv6
    exact markExprS_of B w0 _ kids us vs ho hv (fun i e hi => ⟨hk i e hi, ih i e hi⟩)

end Go.Proofs.Ytggpjapmhakklaa

/- Marks in one statement of the call's own (an argument that is a struct). No statement is proved here. -/
namespace Go.Proofs.Ytggpjapmhakklaa
open Go.RowKit

theorem markAffine_sh (B : Nat) (w0 : World) (u : Value) (xs : List Int) (kk k : Int) (w : World) (h : IntsOwn B w0 u xs) (hS : Sh B w0 w) (hk : 0 ≤ k) (hk1 : k + xs.length ≤ 1000000000000) :
    Calls Try.prog 86 #[.agg #[u, .int .i64 kk], .int .i64 k] w fun e w' => e = .returned (.int .i64 (k + (xs.length : Nat))) ∧ Mk B w0 w w' := by
  obtain ⟨p, c, rfl⟩ := row_form h
  have H := Lib.hid h; have HS := Lib.hid hS; clear h hS
  go_enter Try.func86, Try.ntmps86
  go_wp2_with (fail)
  refine (markIntS_sh B w0 _ xs k _ H.out (HS.out.ext ((Ext.refl w).alloc _)) hk hk1).mono ?_
  rintro e w1 ⟨rfl, hmk⟩
  have HM := Lib.hid (((Mk.refl HS.out).ext ((Ext.refl w).alloc _)).trans hmk)
  clear hmk
  go_wp2
  go_ret
  exact ⟨rfl, HM.out⟩

theorem markAccess_sh (B : Nat) (w0 : World) (arr : ByteArray) (s : Value) (subs : List Aff) (k : Int) (w : World) (h : AffsOwn B w0 s subs) (hS : Sh B w0 w) (hk : 0 ≤ k) (hk1 : k + tot cA subs ≤ 1000000000000) :
    Calls Try.prog 54 #[.agg #[.string arr, s], .int .i64 k] w fun e w' => e = .returned (.int .i64 (k + (tot cA subs : Nat))) ∧ Mk B w0 w w' := by
  have H := Lib.hid h; have HS := Lib.hid hS
  obtain ⟨_, hos, _⟩ := h
  obtain ⟨p, c, rfl⟩ := row_form hos
  clear hos hS
  go_enter Try.func54, Try.ntmps54
  go_wp2_with (fail)
  refine (markAffineS_sh B w0 _ subs k _ H.out (HS.out.ext ((Ext.refl w).alloc _)) hk hk1).mono ?_
  rintro e w1 ⟨rfl, hmk⟩
  have HM := Lib.hid (((Mk.refl HS.out).ext ((Ext.refl w).alloc _)).trans hmk)
  clear hmk
  go_wp2
  go_ret
  exact ⟨rfl, HM.out⟩

/-- The marks of a node that is an argument. -/
def cM (e : Ex) : Nat := e.ix.1.length + tot cA e.subs + cEs e.kids
theorem blk7m {W : World} {g : Nat} {a0 a1 a2 a3 a4 a5 a6 : Value} {t : TypeId} (h : W.heap[g]? = some (.cells #[a0, a1, a2, a3, a4, a5, a6] t (0, 0))) :
    W.cell? ⟨g, 0, none⟩ = some a0 ∧ W.cell? ⟨g, 1, none⟩ = some a1 ∧ W.cell? ⟨g, 2, none⟩ = some a2 ∧ W.cell? ⟨g, 3, none⟩ = some a3 ∧ W.cell? ⟨g, 4, none⟩ = some a4 ∧ W.cell? ⟨g, 5, none⟩ = some a5 ∧ W.cell? ⟨g, 6, none⟩ = some a6 := by
  simp [World.cell?, h]

set_option maxHeartbeats 2000000 in
theorem markExpr_sh (B : Nat) (w0 : World) (cs : List Value) (x : Ex) (k : Int) (w : World) (h : ExO B w0 cs x) (hS : Sh B w0 w) (hk : 0 ≤ k) (hk1 : k + cM x ≤ 1000000000000) :
    Calls Try.prog 55 #[.agg cs.toArray, .int .i64 k] w fun e w' => e = .returned (.int .i64 (k + (cM x : Nat))) ∧ Mk B w0 w w' := by
  have hmk6 := h.marks
  obtain ⟨u, s, v6, rfl, hu, hs, p6, c6, us6, vs6, rfl, -, -, -⟩ := h.parts
  have HK := Lib.hid (hmk6 _ rfl)
  have HU := Lib.hid hu; have HSU := Lib.hid hs; have HS := Lib.hid hS
  obtain ⟨_, hos, _⟩ := hs
  obtain ⟨q2, d2, rfl⟩ := row_form hu
  obtain ⟨q5, d5, rfl⟩ := row_form hos
  have hsz := hS.size
  clear h hmk6 hu hos hS
  have hcm : cM x = x.ix.1.length + tot cA x.subs + cEs x.kids := rfl
  rw [hcm] at hk1 ⊢
  clear hcm
  generalize hl1 : x.ix.1.length = l1 at *
  generalize hl2 : tot cA x.subs = l2 at *
  generalize hl3 : cEs x.kids = l3 at *
  have HL1 := Lib.hid hl1; have HL2 := Lib.hid hl2; have HL3 := Lib.hid hl3
  clear hl1 hl2 hl3
  obtain ⟨g0, hg0⟩ : ∃ g, w.heap.size = g := ⟨_, rfl⟩
  obtain ⟨W0, hW0⟩ : ∃ W, w.alloc (.cells #[.int .i64 x.kind, .int .i64 x.num, .slice q2 l1 d2, .int .i64 x.ix.2, .string x.arr, .slice q5 x.subs.length d5, .slice p6 x.kids.length c6] 48) = W := ⟨_, rfl⟩
  have hM0 : Mk B w0 w W0 := by rw [← hW0]; exact (Mk.refl HS.out).ext ((Ext.refl w).alloc _)
  have hB0 : W0.heap[g0]? = some (.cells #[.int .i64 x.kind, .int .i64 x.num, .slice q2 l1 d2, .int .i64 x.ix.2, .string x.arr, .slice q5 x.subs.length d5, .slice p6 x.kids.length c6] 48 (0, 0)) := by rw [← hW0]; exact blk_at hg0.symm
  obtain ⟨-, -, y2, y3, -⟩ := blk7m hB0
  have HM0 := Lib.hid hM0; have HB0 := Lib.hid hB0
  have HGS : Hid (w0.heap.size ≤ g0) := Lib.hid (by omega)
  clear hM0 hB0
  go_enter Try.func55, Try.ntmps55
  go_wp2_with (fail)
  try rw [hW0]
  try rw [hg0]
  clear hW0 hg0
  refine (markAffine_sh B w0 _ x.ix.1 x.ix.2 k _ HU.out HM0.out.sh hk (by rw [HL1.out]; omega)).mono ?_
  rw [HL1.out]
  rintro e w1 ⟨rfl, hmk⟩
  have HM1 := Lib.hid (HM0.out.trans hmk)
  have HB1 := Lib.hid (hmk.lv.heap HB0.out (fun h => by have := HGS.out; omega))
  clear hmk y2 y3
  obtain ⟨-, -, -, -, y4, y5, -⟩ := blk7m HB1.out
  go_wp2_with (fail)
  refine (markAccess_sh B w0 _ _ x.subs _ _ HSU.out HM1.out.sh (by omega) (by rw [HL2.out]; omega)).mono ?_
  rw [HL2.out]
  rintro e w2 ⟨rfl, hmk⟩
  have HM2 := Lib.hid (HM1.out.trans hmk)
  have HB2 := Lib.hid (hmk.lv.heap HB1.out (fun h => by have := HGS.out; omega))
  clear hmk y4 y5
  obtain ⟨-, -, -, -, -, -, y6⟩ := blk7m HB2.out
  go_wp2_with (fail)
  refine (HK.out _ _ HM2.out.sh (by omega) (by rw [HL3.out]; omega)).mono ?_
  rw [HL3.out]
  rintro e w3 ⟨rfl, hmk⟩
  have HM3 := Lib.hid (HM2.out.trans hmk)
  clear hmk y6
  go_wp2
  go_ret
  exact ⟨by rw [show k + ((l1 + l2 + l3 : Nat) : Int) = k + (l1 : Int) + (l2 : Int) + (l3 : Int) by omega]; rfl, HM3.out⟩

set_option maxHeartbeats 2000000 in
theorem markStmt_sh (B : Nat) (w0 : World) (v : Value) (arr : ByteArray) (su : List Aff) (x : Ex) (k : Int) (w : World) (h : StO B w0 v arr su x) (hS : Sh B w0 w) (hk : 0 ≤ k) (hk1 : k + (tot cA su + cM x : Nat) ≤ 1000000000000) :
    Calls Try.prog 29 #[v, .int .i64 k] w fun e w' => e = .returned (.int .i64 (k + (tot cA su + cM x : Nat))) ∧ Mk B w0 w w' := by
  obtain ⟨s, cs, rfl, -, hsu, hex⟩ := h
  have HEX := Lib.hid hex
  obtain ⟨u, s2, v6, rfl, hu, hs2, p6, c6, us6, vs6, rfl, -, -, -⟩ := hex.parts
  have HSU := Lib.hid hsu; have HS := Lib.hid hS
  obtain ⟨_, hos, _⟩ := hsu
  obtain ⟨_, hos2, _⟩ := hs2
  obtain ⟨q2, d2, rfl⟩ := row_form hu
  obtain ⟨q5, d5, rfl⟩ := row_form hos2
  obtain ⟨q1, d1, rfl⟩ := row_form hos
  have hsz := hS.size
  clear hex hu hos hos2 hS
  generalize hl1 : tot cA su = l1 at *
  generalize hl2 : cM x = l2 at *
  have HL1 := Lib.hid hl1; have HL2 := Lib.hid hl2
  clear hl1 hl2
  obtain ⟨g0, hg0⟩ : ∃ g, w.heap.size = g := ⟨_, rfl⟩
  obtain ⟨W0, hW0⟩ : ∃ W, w.alloc (.cells #[.string arr, .slice q1 su.length d1, .int .i64 x.kind, .int .i64 x.num, .slice q2 x.ix.1.length d2, .int .i64 x.ix.2, .string x.arr, .slice q5 x.subs.length d5, .slice p6 x.kids.length c6] 50) = W := ⟨_, rfl⟩
  have hM0 : Mk B w0 w W0 := by rw [← hW0]; exact (Mk.refl HS.out).ext ((Ext.refl w).alloc _)
  have hB0 : W0.heap[g0]? = some (.cells #[.string arr, .slice q1 su.length d1, .int .i64 x.kind, .int .i64 x.num, .slice q2 x.ix.1.length d2, .int .i64 x.ix.2, .string x.arr, .slice q5 x.subs.length d5, .slice p6 x.kids.length c6] 50 (0, 0)) := by rw [← hW0]; exact blk_at hg0.symm
  obtain ⟨y0, y1, -⟩ := blk9 hB0
  have HM0 := Lib.hid hM0; have HB0 := Lib.hid hB0
  have HGS : Hid (w0.heap.size ≤ g0) := Lib.hid (by omega)
  clear hM0 hB0
  go_enter Try.func29, Try.ntmps29
  go_wp2_with (fail)
  try rw [hW0]
  try rw [hg0]
  clear hW0 hg0
  refine (markAccess_sh B w0 _ _ su k _ HSU.out HM0.out.sh hk (by rw [HL1.out]; omega)).mono ?_
  rw [HL1.out]
  rintro e w1 ⟨rfl, hmk⟩
  have HM1 := Lib.hid (HM0.out.trans hmk)
  have HB1 := Lib.hid (hmk.lv.heap HB0.out (fun h => by have := HGS.out; omega))
  clear hmk y0 y1
  obtain ⟨-, -, y2, y3, y4, y5, y6, y7, y8⟩ := blk9 HB1.out
  go_wp2_with (fail)
  refine (markExpr_sh B w0 _ x _ _ HEX.out HM1.out.sh (by omega) (by rw [HL2.out]; omega)).mono ?_
  rw [HL2.out]
  rintro e w2 ⟨rfl, hmk⟩
  have HM2 := Lib.hid (HM1.out.trans hmk)
  clear hmk y2 y3 y4 y5 y6 y7 y8
  go_wp2
  go_ret
  exact ⟨by rw [show k + ((l1 + l2 : Nat) : Int) = k + (l1 : Int) + (l2 : Int) by omega]; rfl, HM2.out⟩
end Go.Proofs.Ytggpjapmhakklaa
