/- The texts I2 E1 Shelf V7 E2, joined. No statement is proved here. -/
import Derived.Test.YtklehkkclojccaaGreatK38
import Derived.Test.YtklehkkclojccaaGreatK24
import Derived.Test.YtklehkkclojccaaGreatK28
import Derived.Test.YtklehkkclojccaaGreatK39
import Derived.Test.YtklehkkclojccaaGreatK36
import Derived.Shelf.Sort.Plain
import Derived.Shelf.Slices.Equal
import Derived.Ground.Names2Prog
import Derived.Shelf.Slices.CompactI
import Derived.Shelf.Slices.SearchI
import Derived.Shelf.Slices.In.SortNone
import Derived.Shelf.Slices.Empties2
import Derived.Ground.SlsfProg
import Derived.Shelf.SlSortCmp.Insertion
import Derived.Shelf.SlSortCmp.SiftDown1
import Derived.Shelf.SlSortCmp.HeapSort1
import Derived.Shelf.SlSortCmp.Insertion1
import Derived.Shelf.SlSortCmp.Median1
import Derived.Shelf.SlSortCmp.Pivot1
import Derived.Shelf.SlSortCmp.ReverseRange1
import Derived.Shelf.SlSortCmp.PartialInsertion1
import Derived.Shelf.SlSortCmp.PartitionEqual1
import Derived.Shelf.SlSortCmp.Partition1
import Derived.Shelf.SlSortCmp.Pdq1
import Derived.Shelf.SlSortCmp.Whole1
import Derived.Shelf.SlSortCmp.NoneTotal
import Derived.Test.YtklehkkclojccaaGreatProg
import Derived.Test.YtklehkkclojccaaGreatK31
import Derived.OrdersHeld
import Derived.Test.YtklehkkclojccaaGreatK37
import Derived.Test.YtklehkkclojccaaGreatK12
import Derived.Deep.RegionHeld3
/- An instance that is one of a program's; the model's InstanceCells. No statement is proved here. -/
namespace Go.Proofs.YtklehkkclojccaaGreat
open Go.RowKit Go.Maps
end Go.Proofs.YtklehkkclojccaaGreat
/- Values of expressions; the model's l5Wrap and l5Eval. No statement is proved here. -/
namespace Go.Proofs.YtklehkkclojccaaGreat
open Go.RowKit Go.Maps
def valsB (xs : List Int) : Bool := xs.all (fun x => decide (0 ≤ x ∧ x ≤ 999))
theorem vals_no {xs : List Int} {k : Nat} {x : Int} (hx : xs[k]? = some x) (h : ¬ (0 ≤ x ∧ x ≤ 999)) : valsB xs = false := all_false_of (p := fun x => decide (0 ≤ x ∧ x ≤ 999)) hx (decide_eq_false h)
theorem vals_next {xs : List Int} {k : Nat} {x : Int} (hx : xs[k]? = some x) (h1 : valsB (xs.take k) = true) (h : 0 ≤ x ∧ x ≤ 999) : valsB (xs.take (k + 1)) = true := all_take_next (p := fun x => decide (0 ≤ x ∧ x ≤ 999)) hx h1 (decide_eq_true h)
def wrapM (n : Int) : Int := if n.tmod 1000 < 0 then n.tmod 1000 + 1000 else n.tmod 1000
theorem wrapM_bd (n : Int) : 0 ≤ wrapM n ∧ wrapM n ≤ 999 := by
 have h1 := Int.tmod_lt_of_pos n (show (0 : Int) < 1000 by omega)
 have h2 := Int.lt_tmod_of_pos n (show (0 : Int) < 1000 by omega)
 unfold wrapM
 split <;> omega
def opV (k a b : Int) : Int := wrapM (if k = 4 then a + b else if k = 5 then a - b else a * b)
def evX (ars : List Arr) (xs : List Int) (pt : List Int) : Nat → Ex → Int
 | 0, _ => 0
 | L + 1, e => if e.kind = 1 then e.num else if e.kind = 2 then wrapM (evalA pt e.ix) else if e.kind = 3 then xs.getD (cellI e.arr e.subs pt 0 ars).toNat 0
  else match e.kids with
   | [a, b] => opV e.kind (evX ars xs pt L a) (evX ars xs pt L b)
   | _ => 0
theorem evX_mk (ars : List Arr) (xs pt : List Int) (L : Nat) (kind num : Int) (ix : Aff) (arr : ByteArray) (subs : List Aff) (kids : List Ex) : evX ars xs pt (L + 1) (.mk kind num ix arr subs kids) = (if kind = 1 then num else if kind = 2 then wrapM (evalA pt ix) else if kind = 3 then xs.getD (cellI arr subs pt 0 ars).toNat 0
  else match kids with
   | [a, b] => opV kind (evX ars xs pt L a) (evX ars xs pt L b)
   | _ => 0) := rfl
def rdOk (ars : List Arr) (m : Nat) (pt : List Int) (L : Nat) (e : Ex) : Prop := ∀ a ∈ readsE L e, 0 ≤ cellI a.1 a.2 pt 0 ars ∧ cellI a.1 a.2 pt 0 ars < (m : Int)
theorem shape_cases {L : Nat} {kind num : Int} {ix : Aff} {arr : ByteArray} {subs : List Aff} {kids : List Ex} {d : Int} (h : shapeB (L + 1) (.mk kind num ix arr subs kids) d = true) :
  (kind = 1 ∧ 0 ≤ num ∧ num ≤ 99 ∧ kids = []) ∨ (kind = 2 ∧ affValidB ix.1 ix.2 = true ∧ kids = []) ∨ (kind = 3 ∧ accB arr subs d = true ∧ kids = []) ∨ ((kind = 4 ∨ kind = 5 ∨ kind = 6) ∧ ∃ a b, kids = [a, b] ∧ shapeB L a d = true ∧ shapeB L b d = true) := by
 rw [shape_mk] at h
 simp only [Bool.and_eq_true, decide_eq_true_eq, List.all_eq_true] at h
 obtain ⟨hk, ho, ha⟩ := h
 unfold kidsN at hk
 by_cases h1 : kind = 1
 ·subst h1
  simp at hk
  refine .inl ⟨rfl, ?_⟩
  simp [ownF] at ho
  exact ⟨ho.1, ho.2.1, List.eq_nil_of_length_eq_zero (by omega)⟩
 by_cases h2 : kind = 2
 ·subst h2
  simp at hk
  refine .inr (.inl ⟨rfl, ?_⟩)
  simp [ownF] at ho
  exact ⟨ho.2.2.1, List.eq_nil_of_length_eq_zero (by omega)⟩
 by_cases h3 : kind = 3
 ·subst h3
  simp at hk
  refine .inr (.inr (.inl ⟨rfl, ?_⟩))
  simp [ownF] at ho
  exact ⟨ho.2.2, List.eq_nil_of_length_eq_zero (by omega)⟩
 rw [if_neg (by omega)] at hk
 by_cases h4 : kind = 4 ∨ kind = 5 ∨ kind = 6
 ·rw [if_pos h4] at hk
  refine .inr (.inr (.inr ⟨h4, ?_⟩))
  match kids, hk, ha with
  | [a, b], _, ha => exact ⟨a, b, rfl, ha a (by simp), ha b (by simp)⟩
  | [], hk, _ => simp at hk
  | [_], hk, _ => simp at hk
  | _ :: _ :: _ :: _, hk, _ => simp at hk; omega
 ·rw [if_neg h4] at hk; omega
theorem evX_bd {ars : List Arr} {xs pt : List Int} {d : Int} (hv : valsB xs = true) : ∀ (L : Nat) (e : Ex), shapeB L e d = true → 0 ≤ evX ars xs pt L e ∧ evX ars xs pt L e ≤ 999
 | 0, e, h => by simp [shapeB] at h
 | L + 1, .mk kind num ix arr subs kids, h => by
  rcases shape_cases h with ⟨rfl, h1, h2, -⟩ | ⟨rfl, -⟩ | ⟨rfl, -⟩ | ⟨h4, a, b, rfl, -⟩
  ·rw [evX_mk, if_pos rfl]; omega
  ·rw [evX_mk, if_neg (by decide), if_pos rfl]; exact wrapM_bd _
  ·rw [evX_mk, if_neg (by decide), if_neg (by decide), if_pos rfl, List.getD_eq_getElem?_getD]
   cases hx : xs[(cellI arr subs pt 0 ars).toNat]? with
   | none => simp
   | some x =>
    have := (List.all_eq_true.1 hv) x (List.mem_of_getElem? hx)
    simpa using this
  ·rw [evX_mk, if_neg (by omega), if_neg (by omega), if_neg (by omega)]; exact wrapM_bd _
theorem evX_kids {ars : List Arr} {xs pt : List Int} {L : Nat} {kind num : Int} {ix : Aff} {arr : ByteArray} {subs : List Aff} {a b : Ex} (h : kind = 4 ∨ kind = 5 ∨ kind = 6) : evX ars xs pt (L + 1) (.mk kind num ix arr subs [a, b]) = opV kind (evX ars xs pt L a) (evX ars xs pt L b) := by
 rw [evX_mk, if_neg (by omega), if_neg (by omega), if_neg (by omega)]
theorem rdOk_kids {ars : List Arr} {m : Nat} {pt : List Int} {L : Nat} {kind num : Int} {ix : Aff} {arr : ByteArray} {subs : List Aff} {kids : List Ex} (h : rdOk ars m pt (L + 1) (.mk kind num ix arr subs kids)) : ∀ x ∈ kids, rdOk ars m pt L x := fun x hx a ha => h a (by
 simp only [readsE, Ex.kids, List.mem_append, List.mem_flatMap]
 exact .inr ⟨x, hx, ha⟩)
theorem rdOk_read {ars : List Arr} {m : Nat} {pt : List Int} {L : Nat} {num : Int} {ix : Aff} {arr : ByteArray} {subs : List Aff} {kids : List Ex} (h : rdOk ars m pt (L + 1) (.mk 3 num ix arr subs kids)) : 0 ≤ cellI arr subs pt 0 ars ∧ cellI arr subs pt 0 ars < (m : Int) := h (arr, subs) (by simp [readsE, Ex.kind, Ex.arr, Ex.subs])
theorem mul999 {a b : Int} (h1 : 0 ≤ a) (h2 : a ≤ 999) (h3 : 0 ≤ b) (h4 : b ≤ 999) : 0 ≤ a * b ∧ a * b ≤ 998001 := by
 have h := Int.mul_nonneg h1 h3
 have h5 := Int.mul_nonneg (show 0 ≤ 999 - a by omega) h3
 rw [Int.sub_mul] at h5
 omega
theorem l5Wrap_any (n : Int) (w : World) : Calls Tryz.prog 168 #[.int .i64 n] w fun e w' => e = .returned (.int .i64 (wrapM n)) ∧ w = w' := by
 have h2 := Int.lt_tmod_of_pos n (show (0 : Int) < 1000 by omega)
 have h3 := Int.tmod_lt_of_pos n (show (0 : Int) < 1000 by omega)
 by_cases h : n.tmod 1000 < 0
 ·have hd : decide (n.tmod 1000 < 0) = true := by simpa using h
  have e1 : wrapM n = n.tmod 1000 + 1000 := by unfold wrapM; rw [if_pos h]
  have hw1 : IntKind.i64.wrap (n.tmod 1000 + 999) = n.tmod 1000 + 999 := IntWalk.i64_in _ (by omega)
  have hw2 : IntKind.i64.wrap (n.tmod 1000 + 999 + 1) = n.tmod 1000 + 1000 := by rw [IntWalk.i64_in _ (by omega)]; omega
  rw [e1]
  clear e1
  go_enter Tryz.func168, Tryz.ntmps168
  go_wp2
  go_ret
  exact ⟨rfl, rfl⟩
 ·have hd : decide (n.tmod 1000 < 0) = false := by simpa using h
  have e1 : wrapM n = n.tmod 1000 := by unfold wrapM; rw [if_neg h]
  rw [e1]
  clear e1
  go_enter Tryz.func168, Tryz.ntmps168
  go_wp2
  go_ret
  exact ⟨rfl, rfl⟩
set_option linter.unusedVariables false in
set_option linter.unusedSimpArgs false in
set_option maxRecDepth 100000 in
set_option maxHeartbeats 2000000 in
theorem l5Eval_any (dd : Int) (w0 : World) (p : Option Addr) (n c : Nat) (ars : List Arr) (pm : Option Addr) (m cm : Nat) (xs : List Int) (pv : Value) (pt : List Int) (hn : ars.length = n) (ha : ArrsAt w0 (.slice p n c) ars) (hok : ∀ a ∈ ars, arrOkB a = true) (h4 : n ≤ 4)
  (hm : xs.length = m) (hs : IntsAt w0 (.slice pm m cm) xs) (hvs : valsB xs = true) (hp : IntsAt w0 pv pt) (hpw : ptW pt) : ∀ (L : Nat) (e : Ex) (cs : List Value) (w : World), shapeB L e dd = true → ExR w0 cs e → Ext w0 w → rdOk ars m pt L e →
  Calls Tryz.prog 107 #[.slice p n c, .slice pm m cm, .agg cs.toArray, pv] w fun r w' => r = .returned (.int .i64 (evX ars xs pt L e)) ∧ Ext w w'
 | 0, e, cs, w, hsh, _, _, _ => by simp [shapeB] at hsh
 | L + 1, .mk kind num ⟨ixs, k⟩ arr subs kids, cs, w, hsh, he, hE, hrd => by
  obtain ⟨u, s, kv, rfl, hu, har, hs1, hkv⟩ := he.parts
  simp only [Ex.kind, Ex.num, Ex.ix, Ex.arr, Ex.subs, Ex.kids] at *
  obtain ⟨pu, cu, rfl, hmu, -⟩ := id hu
  obtain ⟨ps, cs2, rfl, hms⟩ := hs1.form
  obtain ⟨pk, ck, rfl, hmk⟩ := hkv.form
  obtain ⟨pp, cp, rfl, -, -⟩ := id hp
  have IH := Lib.hid (l5Eval_any dd w0 p n c ars pm m cm xs _ pt hn ha hok h4 hm hs hvs hp hpw L)
  have HA := Lib.hid ha; have HOK := Lib.hid hok; have HM := Lib.hid hm; have HS := Lib.hid hs; have HVS := Lib.hid hvs; have HP := Lib.hid hp; have HPW := Lib.hid hpw; have HN := Lib.hid hn; have HU := Lib.hid hu; have HSS := Lib.hid hs1; have HK := Lib.hid hkv; have HE := Lib.hid hE; have HRD := Lib.hid hrd
  have hcase := shape_cases hsh
  clear ha hok hm hs hvs hp hpw hn hu hs1 hkv hE hrd hsh he
  rcases hcase with ⟨rfl, h1, h2, rfl⟩ | ⟨rfl, hva, rfl⟩ | ⟨rfl, hacc, rfl⟩ | ⟨h456, a, b, rfl, ha2, hb2⟩
  ·have HV : Hid (evX ars xs pt (L + 1) (.mk 1 num (ixs, k) arr subs []) = num) := Lib.hid (by rw [evX_mk, if_pos rfl])
   rw [HV.out]
   go_enter Tryz.func107, Tryz.ntmps107
   go_wp2
   go_ret
   exact ⟨rfl, (Ext.refl w).alloc _⟩
  ·obtain ⟨x0, x1, x2, x3, rfl, -⟩ := valid_four hva
   have HV : Hid (evX ars xs pt (L + 1) (.mk 2 num ([x0, x1, x2, x3], k) arr subs []) = wrapM (evalK [x0, x1, x2, x3] pt k pt.length)) := Lib.hid (by rw [evX_mk, if_neg (by decide), if_pos rfl]; rfl)
   have HVA := Lib.hid hva
   rw [HV.out]
   obtain ⟨y, hy⟩ : ∃ y, evalK [x0, x1, x2, x3] pt k pt.length = y := ⟨_, rfl⟩
   rw [hy]
   have HY := Lib.hid hy
   clear hva hy
   go_enter Tryz.func107, Tryz.ntmps107
   go_wp2_with (fail)
   refine (l1EvalW_any x0 x1 x2 x3 k _ _ pt _ (HU.out.ext (HE.out.trans ((Ext.refl w).alloc _))) (HP.out.ext (HE.out.trans ((Ext.refl w).alloc _))) HVA.out HPW.out).mono ?_
   rw [HY.out]
   rintro e w1 ⟨rfl, hE1⟩
   have E1 := Lib.hid (((Ext.refl w).alloc _).trans hE1)
   clear hE1
   go_wp2_with (fail)
   refine (l5Wrap_any y _).mono ?_
   rintro e w2 ⟨rfl, rfl⟩
   go_wp2
   go_ret
   exact ⟨rfl, E1.out⟩
  ·obtain ⟨hc0, hc1⟩ := rdOk_read HRD.out
   obtain ⟨-, hsv, hab, hsl⟩ := four_of_accB hacc
   have hsl2 : subs.length ≤ 2 := by simp only [accB, Bool.and_eq_true, decide_eq_true_eq] at hacc; exact hacc.2.2.2
   obtain ⟨C, hC⟩ : ∃ C : Nat, cellI arr subs pt 0 ars = C := ⟨(cellI arr subs pt 0 ars).toNat, by omega⟩
   rw [hC] at hc1
   obtain ⟨x, hx⟩ := get_some (xs := xs) (k := C) (by have := HM.out; omega)
   have HV : Hid (evX ars xs pt (L + 1) (.mk 3 num (ixs, k) arr subs []) = x) := Lib.hid (by
    rw [evX_mk, if_neg (by decide), if_neg (by decide), if_pos rfl, hC, Int.toNat_natCast, List.getD_eq_getElem?_getD, hx]
    rfl)
   have HSV := Lib.hid hsv; have HX := Lib.hid hx; have HC := Lib.hid hC; have HAB := Lib.hid hab
   rw [HV.out]
   clear hacc hsv hx hC hab hc0
   go_enter Tryz.func107, Tryz.ntmps107
   go_wp2_with (fail)
   refine (l4Cell_any p n c ars arr _ _ subs pt _ HN.out (HA.out.ext (HE.out.trans ((Ext.refl w).alloc _))) HOK.out h4 HAB.out (HSS.out.ext (HE.out.trans ((Ext.refl w).alloc _))) HSV.out ⟨hsl, hsl2⟩ (HP.out.ext (HE.out.trans ((Ext.refl w).alloc _))) HPW.out).mono ?_
   rw [HC.out]
   rintro e w1 ⟨rfl, hE1⟩
   have E1 := Lib.hid (((Ext.refl w).alloc _).trans hE1)
   obtain ⟨-, hcl⟩ := (HS.out.ext (HE.out.trans E1.out)).cl
   obtain ⟨b, off, rfl, hcell⟩ := hcl C x HX.out
   clear hE1 hcl
   go_wp2
   go_ret
   exact ⟨rfl, E1.out⟩
  ·have HV : Hid (evX ars xs pt (L + 1) (.mk kind num (ixs, k) arr subs [a, b]) = opV kind (evX ars xs pt L a) (evX ars xs pt L b)) := Lib.hid (evX_kids h456)
   have ba := evX_bd (ars := ars) (pt := pt) HVS.out L a ha2
   have bb := evX_bd (ars := ars) (pt := pt) HVS.out L b hb2
   have hra := rdOk_kids HRD.out a (by simp)
   have hrb := rdOk_kids HRD.out b (by simp)
   rw [HV.out]
   obtain ⟨va, hva⟩ : ∃ z, evX ars xs pt L a = z := ⟨_, rfl⟩
   obtain ⟨vb, hvb⟩ : ∃ z, evX ars xs pt L b = z := ⟨_, rfl⟩
   rw [hva, hvb]
   rw [hva] at ba
   rw [hvb] at bb
   have HVA := Lib.hid hva; have HVB := Lib.hid hvb; have HA2 := Lib.hid ha2; have HB2 := Lib.hid hb2; have HRA := Lib.hid hra; have HRB := Lib.hid hrb
   obtain ⟨p', c', us, hv', hl', hc', hk'⟩ := HK.out
   simp only [Value.slice.injEq] at hv'
   obtain ⟨rfl, -, rfl⟩ := hv'
   obtain ⟨bl, off, rfl, hb, hcell⟩ := hc' 0 a rfl
   obtain ⟨bl2, off2, hbe, hb', hcell2⟩ := hc' 1 b rfl
   cases hbe
   have hxa := hk' 0 a rfl
   have hxb := hk' 1 b rfl
   obtain ⟨u2, s2, v2, hcs, -, -, -, -⟩ := hxa.parts
   obtain ⟨u3, s3, v3, hcs3, -, -, -, -⟩ := hxb.parts
   rw [hcs] at hcell hxa
   rw [hcs3] at hcell2 hxb
   have d0 := hcell 0 _ rfl; have d1 := hcell 1 _ rfl; have d2 := hcell 2 _ rfl; have d3 := hcell 3 _ rfl; have d4 := hcell 4 _ rfl; have d5 := hcell 5 _ rfl; have d6 := hcell 6 _ rfl
   have f0 := hcell2 0 _ rfl; have f1 := hcell2 1 _ rfl; have f2 := hcell2 2 _ rfl; have f3 := hcell2 3 _ rfl; have f4 := hcell2 4 _ rfl; have f5 := hcell2 5 _ rfl; have f6 := hcell2 6 _ rfl
   have HXA := Lib.hid hxa; have HXB := Lib.hid hxb
   have HF : Hid (∀ {i u}, w0.cell? ⟨bl, i, none⟩ = some u → w.cell? ⟨bl, i, none⟩ = some u) := Lib.hid (fun h => HE.out.keep h)
   simp only [Nat.zero_mul, Nat.add_zero, Nat.one_mul] at d0 d1 d2 d3 d4 d5 d6 f0 f1 f2 f3 f4 f5 f6
   have D0 := Lib.hid d0; have D1 := Lib.hid d1; have D2 := Lib.hid d2; have D3 := Lib.hid d3; have D4 := Lib.hid d4; have D5 := Lib.hid d5; have D6 := Lib.hid d6
   have F0 := Lib.hid f0; have F1 := Lib.hid f1; have F2 := Lib.hid f2; have F3 := Lib.hid f3; have F4 := Lib.hid f4; have F5 := Lib.hid f5; have F6 := Lib.hid f6
   have x0 := HE.out.keep d0; have x1 := HE.out.keep d1; have x2 := HE.out.keep d2; have x3 := HE.out.keep d3; have x4 := HE.out.keep d4; have x5 := HE.out.keep d5; have x6 := HE.out.keep d6
   have hbw : bl < w.heap.size := World.block_lt_of_cell? _ _ x0
   clear hva hvb ha2 hb2 hra hrb hc' hk' hcell hcell2 hxa hxb hcs hcs3 d0 d1 d2 d3 d4 d5 d6 f0 f1 f2 f3 f4 f5 f6
   have he1 : ((kind : Int) == 1) = false := by simp; omega
   have he2 : ((kind : Int) == 2) = false := by simp; omega
   have he3 : ((kind : Int) == 3) = false := by simp; omega
   go_enter Tryz.func107, Tryz.ntmps107
   go_wp2_with (fail)
   refine (IH.out a _ _ HA2.out HXA.out (HE.out.trans ((Ext.refl w).alloc _)) HRA.out).mono ?_
   rw [HVA.out]
   rintro e w1 ⟨rfl, hE1⟩
   have E1 := Lib.hid (((Ext.refl w).alloc _).trans hE1)
   have B1 := Lib.hid (hE1.blk (g := w.heap.size) (blk_at rfl))
   clear hE1 x0 x1 x2 x3 x4 x5 x6
   have y0 := (HE.out.trans E1.out).keep F0.out; have y1 := (HE.out.trans E1.out).keep F1.out; have y2 := (HE.out.trans E1.out).keep F2.out; have y3 := (HE.out.trans E1.out).keep F3.out; have y4 := (HE.out.trans E1.out).keep F4.out; have y5 := (HE.out.trans E1.out).keep F5.out; have y6 := (HE.out.trans E1.out).keep F6.out
   obtain ⟨z0, z1, z2, z3, z4, z5, z6⟩ := blk7 B1.out
   go_wp2_with (fail)
   refine (IH.out b _ _ HB2.out HXB.out (HE.out.trans E1.out) HRB.out).mono ?_
   rw [HVB.out]
   rintro e w2 ⟨rfl, hE2⟩
   have E2 := Lib.hid (E1.out.trans hE2); have B2 := Lib.hid (hE2.blk B1.out)
   clear hE2 y0 y1 y2 y3 y4 y5 y6 z0 z1 z2 z3 z4 z5 z6
   obtain ⟨z0, z1, z2, z3, z4, z5, z6⟩ := blk7 B2.out
   obtain ⟨a0, a9⟩ := ba
   obtain ⟨b0, b9⟩ := bb
   obtain ⟨m0, m9⟩ := mul999 a0 a9 b0 b9
   rcases h456 with rfl | rfl | rfl
   ·go_wp2_with (fail)
    refine (l5Wrap_any _ _).mono ?_
    rintro e w3 ⟨rfl, rfl⟩
    go_wp2
    go_ret
    exact ⟨ret_int rfl, E2.out⟩
   ·go_wp2_with (fail)
    refine (l5Wrap_any _ _).mono ?_
    rintro e w3 ⟨rfl, rfl⟩
    go_wp2
    go_ret
    exact ⟨ret_int rfl, E2.out⟩
   ·go_wp2_with (fail)
    refine (l5Wrap_any _ _).mono ?_
    rintro e w3 ⟨rfl, rfl⟩
    go_wp2
    go_ret
    exact ⟨ret_int rfl, E2.out⟩
end Go.Proofs.YtklehkkclojccaaGreat
/- The shelf laid at the dump: what is used of it. -/
namespace Go.Proofs
open Go.Shelf
end Go.Proofs
/- Regions in any order: an invariant that every operation keeps holds behind every order (no order is branched over). No statement is proved here. -/
namespace Go.Proofs.YtklehkkclojccaaGreat
open Go.RowKit
theorem filter_le {α : Type} {p p' : α → Bool} (h : ∀ x, p' x = true → p x = true) : ∀ l : List α, (l.filter p').length ≤ (l.filter p).length
 | [] => Nat.le_refl _
 | x :: l => by
  have ih := filter_le h l
  simp only [List.filter_cons]
  cases h1 : p' x with
  | true => rw [h x h1]; simp only [if_true, List.length_cons]; omega
  | false =>
   cases h2 : p x with
   | true => simp only [Bool.false_eq_true, if_false, if_true, List.length_cons]; omega
   | false => simp only [Bool.false_eq_true, if_false]; exact ih
theorem filter_lt {α : Type} {p p' : α → Bool} (h : ∀ x, p' x = true → p x = true) {i : α} (hp : p i = true) (hp' : p' i = false) : ∀ l : List α, i ∈ l → (l.filter p').length < (l.filter p).length
 | x :: l, hm => by
  have hle := filter_le h l
  simp only [List.filter_cons]
  rcases List.mem_cons.1 hm with rfl | hm
  ·rw [hp, hp']; simp only [Bool.false_eq_true, if_false, if_true, List.length_cons]; omega
  ·have ih := filter_lt h hp hp' l hm
   cases h1 : p' x with
   | true => rw [h x h1]; simp only [if_true, List.length_cons]; omega
   | false =>
    cases h2 : p x with
    | true => simp only [Bool.false_eq_true, if_false, if_true, List.length_cons]; omega
    | false => simp only [Bool.false_eq_true, if_false]; exact ih
def leftN (ops : Array Oper) (listed : Array Bool) : Nat := ((List.range ops.size).filter (fun i => !listed.getD i true)).length
theorem leftN_step {md : Region.Mode} {ops : Array Oper} {listed : Array Bool} {i : Nat} (h : i ∈ Region.ready md ops listed) : leftN ops (listed.setIfInBounds i true) < leftN ops listed := by
 obtain ⟨h0, o, ho, -⟩ := mem_ready.1 h
 have hlt : i < ops.size := (Array.getElem?_eq_some_iff.1 ho).1
 refine filter_lt (fun x hx => ?_) (by rw [h0]; rfl) ?_ _ (List.mem_range.2 hlt)
 ·by_cases e : i = x
  ·subst e
   have hli : i < listed.size := by
    rcases Nat.lt_or_ge i listed.size with h' | h'
    ·exact h'
    ·simp [Array.getElem?_eq_none h'] at h0
   simp [hli] at hx
  ·rwa [getD_set_ne true e] at hx
 ·have hli : i < listed.size := by
   rcases Nat.lt_or_ge i listed.size with h' | h'
   ·exact h'
   ·simp [Array.getElem?_eq_none h'] at h0
  simp [hli]
theorem ready_nil {md : Region.Mode} {ops : Array Oper} {listed : Array Bool} (h : leftN ops listed = 0) : Region.ready md ops listed = [] := by
 cases hr : Region.ready md ops listed with
 | nil => rfl
 | cons i r => have := leftN_step (md := md) (ops := ops) (listed := listed) (i := i) (by rw [hr]; simp); omega
theorem wpAnyH_inv {P : Program} {md : Region.Mode} {ops : Array Oper} {Q : Exit → Act → World → Prop} {S : World → Prop} (I : Array Bool → Act → World → Prop)
  (hs : ∀ listed a w i, I listed a w → i ∈ Region.ready md ops listed → wpOp P ops Q i (fun a' w' => S w' ∧ I (listed.setIfInBounds i true) a' w') a w)
  (he : ∀ listed a w, I listed a w → Region.ready md ops listed = [] → Q .normal a w) :
  ∀ (fuel : Nat) (listed : Array Bool) (a : Act) (w : World), leftN ops listed ≤ fuel → I listed a w → wpAnyH P md ops Q S fuel listed a w
 | 0, listed, a, w, hf, hi => ⟨ready_nil (by omega), he _ _ _ hi (ready_nil (by omega))⟩
 | fuel + 1, listed, a, w, hf, hi => ⟨fun h => he _ _ _ hi h, fun i hr => wpOp_mono (fun a' w' h => ⟨h.1, wpAnyH_inv I hs he fuel _ a' w' (by have := leftN_step hr; omega) h.2⟩) (hs _ _ _ _ hi hr)⟩
end Go.Proofs.YtklehkkclojccaaGreat
/- Compiled expressions: what a closure computes. No statement is proved here. -/
namespace Go.Proofs.YtklehkkclojccaaGreat
open Go.RowKit Go.Maps
theorem wrapped_any (n : Int) (w : World) : Calls Tryz.prog 230 #[.int .i64 n] w fun e w' => e = .returned (.int .i64 (wrapM n)) ∧ w = w' := by
 have h2 := Int.lt_tmod_of_pos n (show (0 : Int) < 1000 by omega)
 have h3 := Int.tmod_lt_of_pos n (show (0 : Int) < 1000 by omega)
 by_cases h : n.tmod 1000 < 0
 ·have hd : decide (n.tmod 1000 < 0) = true := by simpa using h
  have e1 : wrapM n = n.tmod 1000 + 1000 := by unfold wrapM; rw [if_pos h]
  have hw1 : IntKind.i64.wrap (n.tmod 1000 + 1000) = n.tmod 1000 + 1000 := IntWalk.i64_in _ (by omega)
  rw [e1]
  clear e1
  go_enter Tryz.func230, Tryz.ntmps230
  go_wp2
  go_ret
  exact ⟨rfl, rfl⟩
 ·have hd : decide (n.tmod 1000 < 0) = false := by simpa using h
  have e1 : wrapM n = n.tmod 1000 := by unfold wrapM; rw [if_neg h]
  rw [e1]
  clear e1
  go_enter Tryz.func230, Tryz.ntmps230
  go_wp2
  go_ret
  exact ⟨rfl, rfl⟩
def opF (k : Int) : Nat := if k = 4 then 281 else if k = 5 then 282 else 283
def opR (k a b : Int) : Int := if k = 4 then a + b else if k = 5 then a - b else a * b
theorem operation_is (k : Int) (w : World) (hk : k = 4 ∨ k = 5 ∨ k = 6) : Calls Tryz.prog 232 #[.int .i64 k] w fun e w' => e = .returned (.func (.func (opF k)) #[] #[]) ∧ w = w' := by
 rcases hk with rfl | rfl | rfl
 all_goals
  go_enter Tryz.func232, Tryz.ntmps232
  go_wp2
  go_ret
  exact ⟨rfl, rfl⟩
theorem opF_any (k a b : Int) (w : World) (hk : k = 4 ∨ k = 5 ∨ k = 6) (h1 : 0 ≤ a) (h2 : a ≤ 999) (h3 : 0 ≤ b) (h4 : b ≤ 999) : Calls Tryz.prog (opF k) #[.int .i64 a, .int .i64 b] w fun e w' => e = .returned (.int .i64 (opR k a b)) ∧ w = w' := by
 obtain ⟨m0, m9⟩ := mul999 h1 h2 h3 h4
 rcases hk with rfl | rfl | rfl
 ·show Calls Tryz.prog 281 _ _ _
  go_enter Tryz.func281, Tryz.ntmps281
  go_wp2
  go_ret
  exact ⟨ret_int rfl, rfl⟩
 ·show Calls Tryz.prog 282 _ _ _
  go_enter Tryz.func282, Tryz.ntmps282
  go_wp2
  go_ret
  exact ⟨ret_int rfl, rfl⟩
 ·show Calls Tryz.prog 283 _ _ _
  go_enter Tryz.func283, Tryz.ntmps283
  go_wp2
  go_ret
  exact ⟨ret_int rfl, rfl⟩
inductive FnR (C : Nat → Prop) (B : Nat) (w1 : World) (mo : Option Nat) (T : Int) (W : World) : Value → Ex → Prop
 | num (n : Int) (g : Nat) (c0 : C g) (hg : W.heap[g]? = some (.cells #[.int .i64 n] 340 (0, 0))) : FnR C B w1 mo T W (.func (.func 228) #[] #[.pointer (some ⟨g, 0, none⟩)]) (.mk 1 n ([], 0) ⟨#[]⟩ [] [])
 | idx (a b c d k : Int) (h : affValidB [a, b, c, d] k = true) (g : Nat) (c0 : C g) (hg : W.heap[g]? = some (.cells #[.int .i64 a, .int .i64 b, .int .i64 c, .int .i64 d, .int .i64 k] 342 (0, 0))) : FnR C B w1 mo T W (.func (.func 229) #[] #[.pointer (some ⟨g, 0, none⟩)]) (.mk 2 0 ([a, b, c, d], k) ⟨#[]⟩ [] [])
 | read (arr : ByteArray) (s : Value) (subs : List Aff) (h : LinsOwn B w1 s subs) (gl gr : Nat) (c0 : C gl) (c1 : C gr) (hl : W.heap[gl]? = some (.cells #[.map mo, .int .i64 T] 66 (0, 0))) (hr : W.heap[gr]? = some (.cells #[.string arr, s] 331 (0, 0))) : FnR C B w1 mo T W (.func (.func 231) #[] #[.pointer (some ⟨gl, 0, none⟩), .pointer (some ⟨gr, 0, none⟩)]) (.mk 3 0 ([], 0) arr subs [])
 | op (kind : Int) (fx fy : Value) (ex ey : Ex) (hk : kind = 4 ∨ kind = 5 ∨ kind = 6) (ga gx gy : Nat) (c0 : C ga) (c1 : C gx) (c2 : C gy) (ha : W.heap[ga]? = some (.cells #[.func (.func (opF kind)) #[] #[]] 275 (0, 0))) (hx : W.heap[gx]? = some (.cells #[fx] 264 (0, 0))) (hy : W.heap[gy]? = some (.cells #[fy] 264 (0, 0))) (ix : FnR C B w1 mo T W fx ex) (iy : FnR C B w1 mo T W fy ey) :
   FnR C B w1 mo T W (.func (.func 233) #[] #[.pointer (some ⟨ga, 0, none⟩), .pointer (some ⟨gx, 0, none⟩), .pointer (some ⟨gy, 0, none⟩)]) (.mk kind 0 ([], 0) ⟨#[]⟩ [] [ex, ey])
def KeepC (C : Nat → Prop) (W W' : World) : Prop := ∀ g, C g → g < W.heap.size → W'.heap[g]? = W.heap[g]?
theorem KeepC.of_ext {C : Nat → Prop} {W W' : World} (h : Ext W W') : KeepC C W W' := fun g _ hl => h.block g hl
theorem KeepC.blk {C : Nat → Prop} {W W' : World} (h : KeepC C W W') {g : Nat} (hc : C g) {o : Obj} (hg : W.heap[g]? = some o) : W'.heap[g]? = some o := (h g hc (lt_of_block hg)).trans hg
theorem FnR.keep {C : Nat → Prop} {B : Nat} {w1 : World} {mo : Option Nat} {T : Int} {W W' : World} {f : Value} {e : Ex} (h : FnR C B w1 mo T W f e) (hK : KeepC C W W') : FnR C B w1 mo T W' f e := by
 induction h with
 | num n g c0 hg => exact .num n g c0 (hK.blk c0 hg)
 | idx a b c d k h g c0 hg => exact .idx a b c d k h g c0 (hK.blk c0 hg)
 | read arr s subs h gl gr c0 c1 hl hr => exact .read arr s subs h gl gr c0 c1 (hK.blk c0 hl) (hK.blk c1 hr)
 | op kind fx fy ex ey hk ga gx gy c0 c1 c2 ha hx hy _ _ ihx ihy => exact .op kind fx fy ex ey hk ga gx gy c0 c1 c2 (hK.blk c0 ha) (hK.blk c1 hx) (hK.blk c2 hy) ihx ihy
theorem FnR.mono {C C' : Nat → Prop} {B : Nat} {w1 : World} {mo : Option Nat} {T : Int} {W : World} {f : Value} {e : Ex} (h : FnR C B w1 mo T W f e) (hC : ∀ g, C g → C' g) : FnR C' B w1 mo T W f e := by
 induction h with
 | num n g c0 hg => exact .num n g (hC _ c0) hg
 | idx a b c d k h g c0 hg => exact .idx a b c d k h g (hC _ c0) hg
 | read arr s subs h gl gr c0 c1 hl hr => exact .read arr s subs h gl gr (hC _ c0) (hC _ c1) hl hr
 | op kind fx fy ex ey hk ga gx gy c0 c1 c2 ha hx hy _ _ ihx ihy => exact .op kind fx fy ex ey hk ga gx gy (hC _ c0) (hC _ c1) (hC _ c2) ha hx hy ihx ihy
theorem FnR.ext {C : Nat → Prop} {B : Nat} {w1 : World} {mo : Option Nat} {T : Int} {W W' : World} {f : Value} {e : Ex} (h : FnR C B w1 mo T W f e) (hE : Ext W W') : FnR C B w1 mo T W' f e := h.keep (KeepC.of_ext hE)
theorem FnR.form {C : Nat → Prop} {B : Nat} {w1 : World} {mo : Option Nat} {T : Int} {W : World} {f : Value} {e : Ex} (h : FnR C B w1 mo T W f e) : ∃ k cap, f = .func (.func k) #[] cap := by cases h <;> exact ⟨_, _, rfl⟩
theorem blk1f {W : World} {g : Nat} {a : Value} {t : TypeId} (h : W.heap[g]? = some (.cells #[a] t (0, 0))) : W.cell? ⟨g, 0, none⟩ = some a ∧ ∀ j, W.frozen? ⟨g, j, none⟩ = false := by
 simp [World.cell?, World.frozen?, h]
def Ent (k : Nat) : Prop := ∀ (a : Array Value) (w : World), Sem.run Tryz.prog (callFunc k a) w = .ok (.enter k a) w
theorem ent1 : Ent 228 := fun _ _ => by kernel_rfl
theorem ent2 : Ent 229 := fun _ _ => by kernel_rfl
theorem ent3 : Ent 231 := fun _ _ => by kernel_rfl
theorem ent4 : Ent 233 := fun _ _ => by kernel_rfl
theorem entO1 : Ent 281 := fun _ _ => by kernel_rfl
theorem entO2 : Ent 282 := fun _ _ => by kernel_rfl
theorem entO3 : Ent 283 := fun _ _ => by kernel_rfl
theorem entO {k : Int} (hk : k = 4 ∨ k = 5 ∨ k = 6) : Ent (opF k) := by
 rcases hk with rfl | rfl | rfl
 ·exact entO1
 ·exact entO2
 ·exact entO3
def FnC (ars : List Arr) (mv pv : Value) (xs pt : List Int) (L : Nat) (f : Value) (e : Ex) (W : World) : Prop := ∃ k cap, f = .func (.func k) #[] cap ∧ Ent k ∧ Calls Tryz.prog k (#[mv, pv] ++ cap) W fun r W' => r = .returned (.int .i64 (evX ars xs pt L e)) ∧ Ext W W'
set_option linter.unusedVariables false in
set_option linter.unusedSimpArgs false in
set_option maxRecDepth 100000 in
set_option maxHeartbeats 2000000 in
theorem fn_any {Cs : Nat → Prop} {B : Nat} {w1 : World} {Bm N : Nat} {T : Int} (dd : Int) (w0 : World) (D : DataW Value) (ars : List Arr) (p : Option Addr) (m c : Nat) (xs : List Int) (pv : Value) (pt : List Int) (ho : arrsB ars = true) (hE01 : Ext w0 w1) (hMI : MapIs w0 D ars) (hM : w1.ownsMap Tryz.prog 9 rawE Bm N D)
  (hm : xs.length = m) (hvs : valsB xs = true) (hpb : ptB pt = true) : ∀ (L : Nat) (f : Value) (e : Ex) (W : World), shapeB L e dd = true → rdOk ars m pt L e → Ext w1 W → FnR Cs B w1 (some Bm) T W f e → IntsAt W (.slice p m c) xs → IntsAt W pv pt →
  FnC ars (.slice p m c) pv xs pt L f e W
 | 0, f, e, W, hsh, _, _, _, _, _ => by simp [shapeB] at hsh
 | L + 1, f, e, W, hsh, hrd, hE, hf, hs, hp => by
  have HO := Lib.hid ho; have HE01 := Lib.hid hE01; have HMI := Lib.hid hMI; have HM := Lib.hid hM; have HXM := Lib.hid hm; have HVS := Lib.hid hvs; have HPB := Lib.hid hpb; have HE := Lib.hid hE; have HS := Lib.hid hs; have HP := Lib.hid hp; have HRD := Lib.hid hrd
  have IH := Lib.hid (fn_any (Cs := Cs) (B := B) (T := T) dd w0 D ars p m c xs pv pt ho hE01 hMI hM hm hvs hpb L)
  obtain ⟨pp, cp, rfl, -, -⟩ := id hp
  clear ho hE01 hMI hM hm hvs hpb hE hs hp hrd
  cases hf with
  | num n g c0 hg =>
   have HV : Hid (evX ars xs pt (L + 1) (.mk 1 n ([], 0) ⟨#[]⟩ [] []) = n) := Lib.hid (by rw [evX_mk, if_pos rfl])
   refine ⟨_, _, rfl, ent1, ?_⟩
   show Calls Tryz.prog 228 #[.slice p m c, .slice pp pt.length cp, .pointer (some ⟨g, 0, none⟩)] W _
   obtain ⟨z0, -⟩ := blk1f hg
   rw [HV.out]
   go_enter Tryz.func228, Tryz.ntmps228
   go_wp2
   go_ret
   exact ⟨rfl, Ext.refl W⟩
  | idx a b c2 d k h g c0 hg =>
   have HV : Hid (evX ars xs pt (L + 1) (.mk 2 0 ([a, b, c2, d], k) ⟨#[]⟩ [] []) = wrapM (evalK [a, b, c2, d] pt k pt.length)) := Lib.hid (by rw [evX_mk, if_neg (by decide), if_pos rfl]; rfl)
   refine ⟨_, _, rfl, ent2, ?_⟩
   show Calls Tryz.prog 229 #[.slice p m c, .slice pp pt.length cp, .pointer (some ⟨g, 0, none⟩)] W _
   obtain ⟨z0, z1, z2, z3, z4, -⟩ := blk5e hg
   have HVA := Lib.hid h
   rw [HV.out]
   obtain ⟨y, hy⟩ : ∃ y, evalK [a, b, c2, d] pt k pt.length = y := ⟨_, rfl⟩
   rw [hy]
   have HY := Lib.hid hy
   clear h hy
   go_enter Tryz.func229, Tryz.ntmps229
   go_wp2_with (fail)
   refine (at_any a b c2 d k _ pt _ HP.out HVA.out HPB.out).mono ?_
   rw [HY.out]
   rintro e w2 ⟨rfl, hE1⟩
   have E1 := Lib.hid hE1
   clear hE1 z0 z1 z2 z3 z4
   go_wp2_with (fail)
   refine (wrapped_any y _).mono ?_
   rintro e w3 ⟨rfl, rfl⟩
   go_wp2
   go_ret
   exact ⟨rfl, E1.out⟩
  | read arr s subs h gl gr c0 c1 hl hr =>
   obtain ⟨hc0, hc1⟩ := rdOk_read HRD.out
   obtain ⟨C, hC⟩ : ∃ C : Nat, cellI arr subs pt 0 ars = C := ⟨(cellI arr subs pt 0 ars).toNat, by omega⟩
   rw [hC] at hc1
   obtain ⟨x, hx⟩ := get_some (xs := xs) (k := C) (by have := HXM.out; omega)
   have HV : Hid (evX ars xs pt (L + 1) (.mk 3 0 ([], 0) arr subs []) = x) := Lib.hid (by
    rw [evX_mk, if_neg (by decide), if_neg (by decide), if_pos rfl, hC, Int.toNat_natCast, List.getD_eq_getElem?_getD, hx]
    rfl)
   have hacc : accB arr subs dd = true := by
    rcases shape_cases hsh with ⟨h1, -⟩ | ⟨h1, -⟩ | ⟨-, h1, -⟩ | ⟨h1, -⟩
    ·cases h1
    ·cases h1
    ·exact h1
    ·omega
   obtain ⟨-, -, hab, -⟩ := four_of_accB hacc
   have har : arr.size ≤ 9223372036854775807 := by have h1 : arr.size = 1 := Decidable.byContradiction (fun h => by rw [arrB_no h] at hab; cases hab); omega
   obtain ⟨ps, cs, rfl⟩ := h.form
   have HLO := Lib.hid (h.ext HE.out); have HX := Lib.hid hx; have HC := Lib.hid hC
   have HMW : Hid (W.ownsMap Tryz.prog 9 rawE Bm N D) := Lib.hid (HM.out.kept (HE.out.grownBy none) (by simp))
   refine ⟨_, _, rfl, ent3, ?_⟩
   show Calls Tryz.prog 231 #[.slice p m c, .slice pp pt.length cp, .pointer (some ⟨gl, 0, none⟩), .pointer (some ⟨gr, 0, none⟩)] W _
   obtain ⟨y0, y1, -, -⟩ := blk2 hl
   obtain ⟨z0, z1, -, -⟩ := blk2 hr
   rw [HV.out]
   clear h hx hC hacc hab hc0
   go_enter Tryz.func231, Tryz.ntmps231
   go_wp2_with (fail)
   refine (cell_any ars arr _ _ subs pt T Bm B N D w0 _ HO.out (HE01.out.trans HE.out) HMI.out HMW.out har HLO.out HP.out HPB.out).mono ?_
   rw [HC.out, show celV (C : Int) = (C : Int) by unfold celV; rw [if_neg (by omega)], show celB (C : Int) = true by unfold celB; simp]
   rintro e w2 ⟨rfl, hE1⟩
   have E1 := Lib.hid hE1
   obtain ⟨-, hcl⟩ := (HS.out.ext hE1).cl
   obtain ⟨b, off, rfl, hcell⟩ := hcl C x HX.out
   clear hE1 hcl y0 y1 z0 z1
   go_wp2
   go_ret
   exact ⟨rfl, E1.out⟩
  | op kind fx fy ex ey hk ga gx gy c0 c1 c2 ha hx hy ix iy =>
   obtain ⟨-, hxs, hys⟩ : True ∧ shapeB L ex dd = true ∧ shapeB L ey dd = true := by
    rcases shape_cases hsh with ⟨h1, -⟩ | ⟨h1, -⟩ | ⟨h1, -⟩ | ⟨-, a, b, h2, h3, h4⟩
    ·omega
    ·omega
    ·omega
    ·simp only [List.cons.injEq, and_true] at h2
     obtain ⟨rfl, rfl⟩ := h2
     exact ⟨trivial, h3, h4⟩
   have HV : Hid (evX ars xs pt (L + 1) (.mk kind 0 ([], 0) ⟨#[]⟩ [] [ex, ey]) = wrapM (opR kind (evX ars xs pt L ex) (evX ars xs pt L ey))) := Lib.hid (evX_kids hk)
   have bx := evX_bd (ars := ars) (pt := pt) HVS.out L ex hxs
   have by' := evX_bd (ars := ars) (pt := pt) HVS.out L ey hys
   have hrx := rdOk_kids HRD.out ex (by simp)
   have hry := rdOk_kids HRD.out ey (by simp)
   obtain ⟨kx, cx, rfl, hex, hcx⟩ := IH.out fx ex W hxs hrx HE.out ix HS.out HP.out
   obtain ⟨ky, cy, rfl, hey, -⟩ := IH.out fy ey W hys hry HE.out iy HS.out HP.out
   have HCY : Hid (∀ W', Ext W W' → Calls Tryz.prog ky (#[.slice p m c, .slice pp pt.length cp] ++ cy) W' fun r W'' => r = .returned (.int .i64 (evX ars xs pt L ey)) ∧ Ext W' W'') := Lib.hid (fun W' hW => by
    obtain ⟨k2, c2, he, -, h2⟩ := IH.out _ ey W' hys hry (HE.out.trans hW) (iy.ext hW) (HS.out.ext hW) (HP.out.ext hW)
    cases he
    exact h2)
   have HCX : Hid (∀ W', Ext W W' → Calls Tryz.prog kx (#[.slice p m c, .slice pp pt.length cp] ++ cx) W' fun r W'' => r = .returned (.int .i64 (evX ars xs pt L ex)) ∧ Ext W' W'') := Lib.hid (fun W' hW => by
    obtain ⟨k2, c2, he, -, h2⟩ := IH.out _ ex W' hxs hrx (HE.out.trans hW) (ix.ext hW) (HS.out.ext hW) (HP.out.ext hW)
    cases he
    exact h2)
   refine ⟨_, _, rfl, ent4, ?_⟩
   show Calls Tryz.prog 233 #[.slice p m c, .slice pp pt.length cp, .pointer (some ⟨ga, 0, none⟩), .pointer (some ⟨gx, 0, none⟩), .pointer (some ⟨gy, 0, none⟩)] W _
   obtain ⟨z0, -⟩ := blk1f ha
   obtain ⟨z1, -⟩ := blk1f hx
   obtain ⟨z2, -⟩ := blk1f hy
   rw [HV.out]
   generalize evX ars xs pt L ex = vx at *
   generalize evX ars xs pt L ey = vy at *
   obtain ⟨x0, x9⟩ := bx
   obtain ⟨y0, y9⟩ := by'
   have HK := Lib.hid hk
   have heo : ∀ (a : Array Value) (w : World), Sem.run Tryz.prog (callFunc (opF kind) a) w = .ok (.enter (opF kind) a) w := entO hk
   replace hex : ∀ (a : Array Value) (w : World), Sem.run Tryz.prog (callFunc kx a) w = .ok (.enter kx a) w := hex
   replace hey : ∀ (a : Array Value) (w : World), Sem.run Tryz.prog (callFunc ky a) w = .ok (.enter ky a) w := hey
   clear hcx hxs hys hrx hry ix iy IH hsh hk
   go_enter Tryz.func233, Tryz.ntmps233
   go_wp2
   go_region_held3 (fun X => X.cell? ⟨ga, 0, none⟩ = some (.func (.func (opF kind)) #[] #[]) ∧ X.cell? ⟨gx, 0, none⟩ = some (.func (.func kx) #[] cx) ∧ X.cell? ⟨gy, 0, none⟩ = some (.func (.func ky) #[] cy))
    (first | exact ⟨z0, z1, z2⟩ | exact ⟨g3.keep z0, g3.keep z1, g3.keep z2⟩ | exact ⟨g4.keep z0, g4.keep z1, g4.keep z2⟩ | fail)
    (first | ((with_reducible refine (HCX.out _ ((Ext.refl W).drew)).mono ?_); rintro r w2 ⟨rfl, hE2⟩; have g3 := (Ext.refl W).drew.trans hE2; have G3 := Lib.hid g3; clear hE2) | ((with_reducible refine (HCY.out _ G3.out).mono ?_); rintro r w3 ⟨rfl, hE3⟩; have g4 := G3.out.trans hE3; clear hE3) | ((with_reducible refine (opF_any kind vx vy _ HK.out x0 x9 y0 y9).mono ?_); rintro r w4 ⟨rfl, rfl⟩) | (go_at_call 230; (with_reducible refine (wrapped_any _ _).mono ?_); rintro r w5 ⟨rfl, rfl⟩) | fail)
   go_wp2
   go_ret
   exact ⟨rfl, g4⟩
end Go.Proofs.YtklehkkclojccaaGreat
