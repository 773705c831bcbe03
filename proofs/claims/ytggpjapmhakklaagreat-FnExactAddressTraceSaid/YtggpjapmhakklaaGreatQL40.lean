/- The texts G13 G9 C1, joined. No statement is proved here. -/
import Derived.Test.YtggpjapmhakklaaGreatQL22
import Derived.Test.YtggpjapmhakklaaGreatQL06
import Derived.Test.YtggpjapmhakklaaGreatQL30
import Derived.Test.YtggpjapmhakklaaGreatQL35
import Derived.Test.YtggpjapmhakklaaGreatQL47
import Derived.Test.YtggpjapmhakklaaGreatQL19
import Derived.Test.YtggpjapmhakklaaGreatQL10
import Derived.Test.YtggpjapmhakklaaGreatQL31
set_option maxRecDepth 100000
set_option maxHeartbeats 8000000
set_option linter.unusedVariables false
set_option linter.unusedSimpArgs false
namespace Go.Proofs.YtggpjapmhakklaaGreat
open Go.Lib (hid)
open Go.RowKit Go.Maps
def kl (nm : ByteArray) : Lit := .string nm.data.toList
theorem kl_inj {a b : ByteArray} (h : kl a = kl b) : a = b := by
 obtain ⟨⟨x⟩⟩ := a; obtain ⟨⟨y⟩⟩ := b
 simpa [kl] using h
theorem keyStr : Keyed Tryz.prog 9 := string_keyed Tryz.underlying9
def MapIs (w0 : World) (D : DataW Value) (l : List Arr) : Prop := ∀ nm : ByteArray, (placeOf nm 0 l = none → Maps.has D (kl nm) = false) ∧
 ∀ f ds, placeOf nm 0 l = some (f, ds) → Maps.has D (kl nm) = true ∧ ∃ q c, (∀ z, D.atKey (kl nm) z = .held (.agg #[.int .i64 f, .slice q ds.length c])) ∧ IntsAt w0 (.slice q ds.length c) ds
theorem placeOf_snoc {nm : ByteArray} {x : Arr} : ∀ (l : List Arr) (b : Int), placeOf nm b (l ++ [x]) = match placeOf nm b l with
  | some r => some r
  | none => if x.1 = nm then some (b + totN l, x.2) else none
 | [], b => by simp [placeOf, totN]
 | a :: r, b => by
  simp only [List.cons_append, placeOf]
  split
  ·rfl
  ·rw [placeOf_snoc r (b + dimsN a.2)]
   have e : b + dimsN a.2 + totN r = b + totN (a :: r) := by simp [totN]; omega
   rw [e]
theorem placeOf_none {nm : ByteArray} : ∀ {l : List Arr} {b : Int}, (∀ a ∈ l, a.1 ≠ nm) → placeOf nm b l = none
 | [], _, _ => rfl
 | a :: r, b, h => by
  simp only [placeOf]
  rw [if_neg (h a (by simp))]
  exact placeOf_none (fun x hx => h x (by simp [hx]))
theorem ascB_last : ∀ {l : List Nat} {x : Nat}, ascB (l ++ [x]) = true → ∀ y ∈ l, y < x
 | [], _, _, y, hy => by simp at hy
 | a :: l, x, h, y, hy => by
  rcases List.mem_cons.1 hy with rfl | hy
  ·exact ascB_lt (l := l ++ [x]) h (by simp)
  ·exact ascB_last (ascB_tail (x := a) h) y hy
theorem arrsTo_new {ars : List Arr} {k : Nat} {x : Arr} (h : arrsTo ars (k + 1)) (hx : ars[k]? = some x) : ∀ a ∈ ars.take k, a.1 ≠ x.1 := by
 intro a ha e
 have h2 := h.2
 rw [take_next hx, List.map_append] at h2
 have := ascB_last h2 (nmN a.1) (List.mem_map.2 ⟨a, ha, rfl⟩)
 rw [e] at this
 exact absurd this (Nat.lt_irrefl _)
theorem MapIs.empty (w0 : World) : MapIs w0 (.map []) [] := fun nm => ⟨fun _ => rfl, fun f ds h => by simp [placeOf] at h⟩
theorem MapIs.step {w0 : World} {D : DataW Value} {l : List Arr} {x : Arr} {q : Option Addr} {c : Nat} (h : MapIs w0 D l) (hD : Maps.IsMap D) (hn : ∀ a ∈ l, a.1 ≠ x.1) (hi : IntsAt w0 (.slice q x.2.length c) x.2) :
  MapIs w0 (D.put (kl x.1) (.held (.agg #[.int .i64 (totN l), .slice q x.2.length c]))) (l ++ [x]) := by
 intro nm
 have hp := placeOf_snoc (nm := nm) (x := x) l 0
 by_cases e : x.1 = nm
 ·subst e
  rw [placeOf_none hn, if_pos rfl, Int.zero_add] at hp
  refine ⟨fun h2 => (by rw [hp] at h2; cases h2), fun f ds h2 => ?_⟩
  rw [hp] at h2
  simp only [Option.some.injEq, Prod.mk.injEq] at h2
  obtain ⟨rfl, rfl⟩ := h2
  exact ⟨Maps.has_put_same hD (by trivial) _, q, c, fun z => Maps.atKey_put_same hD (by trivial) _ z, hi⟩
 ·have hne : kl nm ≠ kl x.1 := fun h2 => e (kl_inj h2).symm
  obtain ⟨h1, h2⟩ := h nm
  rw [if_neg e] at hp
  refine ⟨fun h3 => ?_, fun f ds h3 => ?_⟩
  ·rw [Maps.has_put_other hne]
   refine h1 ?_
   rw [hp] at h3
   split at h3
   ·cases h3
   ·assumption
  ·rw [hp] at h3
   have h4 : placeOf nm 0 l = some (f, ds) := by
    split at h3
    ·rename_i r hr
     rw [hr]; exact h3
    ·cases h3
   obtain ⟨g1, q', c', g2, g3⟩ := h2 f ds h4
   exact ⟨by rw [Maps.has_put_other hne]; exact g1, q', c', fun z => by rw [Maps.atKey_put_other hne]; exact g2 z, g3⟩
theorem arrayValid2_any (nm : ByteArray) (ds : List Int) (s : Value) (w : World) (ha : nm.size ≤ 9223372036854775807) (hs : IntsAt w s ds) :
  Calls Tryz.prog 72 #[.agg #[.string nm, s]] w fun e w' => e = .returned (.bool (arrOkB (nm, ds))) ∧ Ext w w' := by
 obtain ⟨p, c, rfl, hm, hc⟩ := hs.get
 obtain ⟨n, hn⟩ : ∃ n, ds.length = n := ⟨_, rfl⟩
 rw [hn] at hm ⊢
 have HC := hid hc; have HN := hid hn
 clear hs hc hn
 obtain ⟨ab, hab⟩ : ∃ ab, arrB nm = ab := ⟨_, rfl⟩
 have HAB := hid hab; clear hab
 go_enter Tryz.func72, Tryz.ntmps72
 go_wp2_with (fail)
 refine (arrayValid_any nm _ ha).mono ?_
 rw [HAB.out]
 rintro e w1 ⟨rfl, rfl⟩
 obtain ⟨W0, hW0⟩ : ∃ W0, w.alloc (.cells #[.string nm, .slice p n c] 106) = W0 := ⟨_, rfl⟩
 have E0 : Hid (Ext w W0) := hid (by rw [← hW0]; exact (Ext.refl w).alloc _)
 have B0 := hid (show W0.heap[w.heap.size]? = some (.cells #[.string nm, .slice p n c] 106 (0, 0)) by rw [← hW0]; exact blk_at rfl)
 rw [hW0]
 clear hW0
 obtain ⟨y0, y1, -, -⟩ := blk2 B0.out
 cases ab with
 | false =>
  have HRF : Hid (arrOkB (nm, ds) = false) := hid (by simp only [arrOkB]; rw [HAB.out]; rfl)
  go_wp2
  go_ret
  exact ⟨ret_bool HRF.out.symm, E0.out⟩
 | true =>
  by_cases h1 : 1 ≤ n
  ·have hq1 : decide ((n : Int) < 1) = false := by simp; omega
   by_cases h2 : n ≤ 2
   ·have hq2 : decide ((2 : Int) < (n : Int)) = false := by simp; omega
    go_wp2
    go_loopw [24] (fun i wr => ∃ k : Nat, k ≤ n ∧ i = .int .i64 k ∧ (∀ d ∈ ds.take k, 1 ≤ d ∧ d ≤ 6) ∧ Ext W0 wr) (fun i _ => n - (intOf i).toNat)
    case atStart => exact ⟨0, by omega, rfl, by simp, Ext.refl W0⟩
    case round =>
     obtain ⟨k, hk, rfl, hall, hE⟩ := hrel
     have HA := hid hall; have HE := hid hE; have HEW := hid (E0.out.trans hE)
     clear hall hE
     by_cases hlt : k < n
     ·obtain ⟨d, hd⟩ := get_some (xs := ds) (k := k) (by rw [HN.out]; exact hlt)
      obtain ⟨bd, od, rfl, cd0, hbd⟩ := HC.out k d hd
      have cd := HEW.out.keep cd0
      have HD := hid hd
      clear hd cd0
      by_cases hd1 : d < 1
      ·have hq1 : decide (d < 1) = true := by simpa using hd1
       have HRF : Hid (arrOkB (nm, ds) = false) := hid (by simp only [arrOkB]; rw [all_false_of (p := fun d => decide (1 ≤ d ∧ d ≤ 6)) HD.out (by simp; omega)]; simp)
       go_wp2
       go_ret
       exact ⟨ret_bool HRF.out.symm, HEW.out⟩
      ·have hq1 : decide (d < 1) = false := by simpa using hd1
       by_cases hd2 : 6 < d
       ·have hq2 : decide (6 < d) = true := by simpa using hd2
        have HRF : Hid (arrOkB (nm, ds) = false) := hid (by simp only [arrOkB]; rw [all_false_of (p := fun d => decide (1 ≤ d ∧ d ≤ 6)) HD.out (by simp; omega)]; simp)
        go_wp2
        go_ret
        exact ⟨ret_bool HRF.out.symm, HEW.out⟩
       ·have hq2 : decide (6 < d) = false := by simpa using hd2
        have HA2 := hid (mem_take_next HD.out HA.out (show 1 ≤ d ∧ d ≤ 6 by omega))
        go_wp2
        go_roundw
        case rel => exact ⟨k + 1, by omega, by go_num, HA2.out, HE.out⟩
        case measure => simp [intOf]; omega
     ·obtain rfl : k = n := by omega
      have HRT : Hid (arrOkB (nm, ds) = true) := hid (by
       have h := HA.out
       rw [List.take_of_length_le (by rw [HN.out]; omega)] at h
       simp only [arrOkB, HAB.out, Bool.true_and, Bool.and_eq_true, decide_eq_true_eq, List.all_eq_true]
       exact ⟨by rw [HN.out]; omega, h⟩)
      go_wp2
      go_ret
      exact ⟨ret_bool HRT.out.symm, HEW.out⟩
   ·have hq2 : decide ((2 : Int) < (n : Int)) = true := by simp; omega
    have HRF : Hid (arrOkB (nm, ds) = false) := hid (by simp only [arrOkB]; rw [decide_eq_false (show ¬ (1 ≤ ds.length ∧ ds.length ≤ 2) by rw [HN.out]; omega)]; simp)
    go_wp2
    go_ret
    exact ⟨ret_bool HRF.out.symm, E0.out⟩
  ·have hq1 : decide ((n : Int) < 1) = true := by simp; omega
   have HRF : Hid (arrOkB (nm, ds) = false) := hid (by simp only [arrOkB]; rw [decide_eq_false (show ¬ (1 ≤ ds.length ∧ ds.length ≤ 2) by rw [HN.out]; omega)]; simp)
   go_wp2
   go_ret
   exact ⟨ret_bool HRF.out.symm, E0.out⟩
theorem arraySize_any (nm : ByteArray) (ds : List Int) (s : Value) (w : World) (hs : IntsAt w s ds) (ho : arrOkB (nm, ds) = true) :
  Calls Tryz.prog 73 #[.agg #[.string nm, s]] w fun e w' => e = .returned (.int .i64 (dimsN ds)) ∧ Ext w w' := by
 obtain ⟨-, h2, h3⟩ := arrOk_parts ho
 clear ho
 rcases dims_cases h2 h3 with ⟨d, rfl, hd⟩ | ⟨d, e, rfl, hd, he⟩
 ·obtain ⟨bl, off, cap, rfl, hc, hbl⟩ := hs.cellsAt
  have c0 : w.cell? ⟨bl, off, none⟩ = some (.int .i64 d) := hc 0 d rfl
  clear hs hc h2 h3
  go_enter Tryz.func73, Tryz.ntmps73
  go_wp2
  go_rounds 4
  go_ret
  exact ⟨ret_int (by simp [dimsN]), (Ext.refl w).alloc _⟩
 ·obtain ⟨bl, off, cap, rfl, hc, hbl⟩ := hs.cellsAt
  have c0 : w.cell? ⟨bl, off, none⟩ = some (.int .i64 d) := hc 0 d rfl
  have c1 : w.cell? ⟨bl, off + 1, none⟩ = some (.int .i64 e) := hc 1 e rfl
  have hm := mul36 hd.1 hd.2 he.1 he.2
  clear hs hc h2 h3
  go_enter Tryz.func73, Tryz.ntmps73
  go_wp2
  go_rounds 4
  go_ret
  exact ⟨ret_int (by simp [dimsN]), (Ext.refl w).alloc _⟩
end Go.Proofs.YtggpjapmhakklaaGreat
namespace Go.Proofs.YtggpjapmhakklaaGreat
open Go.Lib (hid)
open Go.RowKit
def Ka (w w' : World) : Prop := ∀ (g : Nat) (cs : Array Value) (T : TypeId) (fz : Nat × Nat), T ≠ 96 → w.heap[g]? = some (.cells cs T fz) → w'.heap[g]? = some (.cells cs T fz)
theorem Ka.refl (w : World) : Ka w w := fun _ _ _ _ _ h => h
theorem Ka.trans {a b c : World} (h : Ka a b) (k : Ka b c) : Ka a c := fun g cs T fz hT hg => k g cs T fz hT (h g cs T fz hT hg)
theorem Ka.of_ext {w w' : World} (h : Ext w w') : Ka w w' := fun _ _ _ _ _ hg => h.blk hg
theorem Ka.of_grown {w w' : World} {row : Option Nat} (hg : w.grownBy w' row) (ht : Tag w row 96) : Ka w w' := fun _ _ _ _ hT h => blk_tag h hg ht (fun e => hT e.symm)
theorem reads_len : ∀ (L : Nat) (e : Ex), ((readsE L e).length : Int) ≤ countE L e
 | 0, _ => by simp [readsE, countE]
 | L + 1, e => by
  have hs : ∀ (l : List Ex), ((l.flatMap (readsE L)).length : Int) ≤ (l.map (countE L)).sum := by
   intro l
   induction l with
   | nil => simp
   | cons a l ih =>
    have := reads_len L a
    simp only [List.flatMap_cons, List.length_append, List.map_cons, List.sum_cons]
    omega
  have := hs e.kids
  simp only [readsE, countE, List.length_append]
  split
  ·simp only [List.length_cons, List.length_nil]; omega
  ·simp only [List.length_nil]; omega
theorem sum_take_next {f : Ex → Int} : ∀ {l : List Ex} {j : Nat} {x : Ex}, (∀ y ∈ l, 0 ≤ f y) → l[j]? = some x → ((l.take j).map f).sum + f x ≤ (l.map f).sum
 | [], j, x, _, hx => by simp at hx
 | a :: l, 0, x, h, hx => by
  simp at hx; subst hx
  have : ∀ (l : List Ex), (∀ y ∈ l, 0 ≤ f y) → 0 ≤ (l.map f).sum := by
   intro l
   induction l with
   | nil => simp
   | cons b l ih => intro h; have h1 := h b (by simp); have h2 := ih (fun y hy => h y (by simp [hy])); simp only [List.map_cons, List.sum_cons]; omega
  have := this l (fun y hy => h y (by simp [hy]))
  simp only [List.take_zero, List.map_nil, List.sum_nil, List.map_cons, List.sum_cons]; omega
 | a :: l, j + 1, x, h, hx => by
  have := sum_take_next (l := l) (j := j) (x := x) (fun y hy => h y (by simp [hy])) (by simpa using hx)
  simp only [List.take_succ_cons, List.map_cons, List.sum_cons]; omega
theorem flat_len {L : Nat} (l : List Ex) : ((l.flatMap (readsE L)).length : Int) ≤ (l.map (countE L)).sum := by
 induction l with
 | nil => simp
 | cons a l ih =>
  have := reads_len L a
  simp only [List.flatMap_cons, List.length_append, List.map_cons, List.sum_cons]
  omega
theorem flat_take {L : Nat} {l : List Ex} {j : Nat} {x : Ex} (h : l[j]? = some x) : (l.take (j + 1)).flatMap (readsE L) = (l.take j).flatMap (readsE L) ++ readsE L x := by
 rw [take_next h, List.flatMap_append]; simp
theorem four_of_accB {arr : ByteArray} {subs : List Aff} {d : Int} (h : accB arr subs d = true) : FourA 2 subs ∧ (∀ x ∈ subs, affValidB x.1 x.2 = true) ∧ arrB arr = true ∧ 1 ≤ subs.length := by
 simp only [accB, Bool.and_eq_true, List.all_eq_true, decide_eq_true_eq, boundB] at h
 refine ⟨⟨h.2.2.2, fun a ha => ?_⟩, fun x hx => (h.1 x hx).1, h.2.1, h.2.2.1⟩
 obtain ⟨a0, a1, a2, a3, e, -⟩ := valid_four (h.1 a ha).1
 rw [e]; rfl
def RdOf (dd : Int) (B L : Nat) : Prop := ∀ (e : Ex) (cs : List Value) (w0 w : World) (v : Value) (xs : List Acc), shapeB L e dd = true → ExR w0 cs e → Ext w0 w → w0.heap.size ≤ B → B ≤ w.heap.size → AccsO B w v xs → (xs.length : Int) + countE L e ≤ 1000 →
  Calls Tryz.prog 68 #[v, .agg cs.toArray] w fun r w' => (∃ v', r = .returned v' ∧ AccsO B w' v' (xs ++ readsE L e)) ∧ Ext w0 w' ∧ Ka w w' ∧ w.heap.size ≤ w'.heap.size
theorem l3Reads_read (dd : Int) (B L : Nat) (e : Ex) (cs : List Value) (w0 w : World) (v : Value) (xs : List Acc) (hk3 : e.kind = 3) (hsh : shapeB (L + 1) e dd = true) (he : ExR w0 cs e) (hE : Ext w0 w) (hB0 : w0.heap.size ≤ B) (hB1 : B ≤ w.heap.size) (hv : AccsO B w v xs) (hlen : (xs.length : Int) + countE (L + 1) e ≤ 1000) :
  Calls Tryz.prog 68 #[v, .agg cs.toArray] w fun r w' => (∃ v', r = .returned v' ∧ AccsO B w' v' (xs ++ readsE (L + 1) e)) ∧ Ext w0 w' ∧ Ka w w' ∧ w.heap.size ≤ w'.heap.size := by
 obtain ⟨kind, num, ⟨ixs, k⟩, arr, subs, kids⟩ := e
 obtain ⟨u, s, kv, rfl, hu, ha, hs, hkv⟩ := he.parts
 simp only [Ex.kind, Ex.num, Ex.ix, Ex.arr, Ex.subs, Ex.kids] at *
 obtain ⟨pu, cu, rfl, hmu, -⟩ := id hu
 obtain ⟨ps, cs2, rfl, hms⟩ := hs.form
 obtain ⟨pk, ck, rfl, hmk⟩ := hkv.form
 obtain ⟨po, co, rfl⟩ := PairsOwn.slice hv
 obtain ⟨i2, hi2, hx0, hx1, hx2⟩ := info_parts infoAcc
 have hkids := shape_kids hsh
 simp only [Ex.kids] at hkids
 have hcE : countE (L + 1) (.mk kind num (ixs, k) arr subs kids) = 1 + (kids.map (countE L)).sum := by simp [countE, Ex.kids]
 rw [hcE] at hlen
 have HSH := hid hsh; have HE := hid hE; have HV := hid hv; have HS := hid hs; have HK := hid hkv; have HKI := hid hkids; have HLEN := hid hlen
 clear hsh hE hv hs hkv hu he hkids hlen hcE
 subst hk3
 have hb3 : ((3 : Int) == 3) = true := rfl
 have hsh := HSH.out
 rw [shape_mk, show kidsN 3 = 0 from rfl, kids0] at hsh
 simp only [Bool.and_eq_true, decide_eq_true_eq] at hsh
 obtain ⟨hk0, hown, -⟩ := hsh
 obtain rfl := List.eq_nil_of_length_eq_zero hk0
 have hacc : accB arr subs dd = true := by
  have h : ownF 3 num (ixs, k) arr subs dd = (decide (num = 0) && (noneB (ixs, k) && accB arr subs dd)) := rfl
  rw [h] at hown
  simp only [Bool.and_eq_true] at hown
  exact hown.2.2
 obtain ⟨hf2, -, -, -⟩ := four_of_accB hacc
 have HF2 := hid (hf2.mono (M := 1000) (by omega))
 have HRE : Hid (readsE (L + 1) (.mk 3 num (ixs, k) arr subs []) = [(arr, subs)]) := hid (by simp [readsE, Ex.kind, Ex.kids, Ex.arr, Ex.subs])
 have hxl : xs.length ≤ 1000 := by have := HLEN.out; simp at this; omega
 clear hown hacc hf2 HKI HLEN hk0 HK
 rw [HRE.out]
 go_enter Tryz.func68, Tryz.ntmps68
 go_wp2_with (fail)
 obtain ⟨W1, hW1⟩ : ∃ W1, w.alloc (.cells #[.int .i64 3, .int .i64 num, .slice pu ixs.length cu, .int .i64 k, .string arr, .slice ps subs.length cs2, .slice pk 0 ck] 101) = W1 := ⟨_, rfl⟩
 have E1 : Hid (Ext w W1) := hid (by rw [← hW1]; exact (Ext.refl w).alloc _)
 have B1 := hid (show W1.heap[w.heap.size]? = some (.cells #[.int .i64 3, .int .i64 num, .slice pu ixs.length cu, .int .i64 k, .string arr, .slice ps subs.length cs2, .slice pk 0 ck] 101 (0, 0)) by rw [← hW1]; exact blk_at rfl)
 rw [hW1]
 clear hW1
 refine (l3CopyAccess_any arr _ subs _ (HS.out.ext (HE.out.trans E1.out)) HF2.out).mono ?_
 rintro r W2 ⟨⟨q, d, rfl, hcp⟩, hE2⟩
 have hz1 := E1.out.size_le; have hz2 := hE2.size_le
 have E2 := hid (E1.out.trans hE2); have B2 := hid (hE2.blk B1.out); have HCP := hid (hcp.weak (B' := B) (by omega))
 obtain ⟨n, hn⟩ : ∃ n, xs.length = n := ⟨_, rfl⟩
 have HN := hid hn
 have hva := AccsO.ext HV.out (E2.out.alloc (.cells #[.string arr, .slice q subs.length d] 96))
 obtain ⟨vs, ho, he⟩ := hva
 rw [hn] at ho hxl ⊢
 have hvl := ho.1
 have HHE := hid he
 obtain ⟨-, -, -, -, -, -, z6⟩ := blk7 B2.out
 clear hcp hE2 hn he
 go_wp2_with (at_builtin; refine wpList_append_own_at _ rfl (.tmp 9) (.tmp 13) 156 rfl B 96 i2 (.agg #[.string ⟨#[]⟩, .slice none 0 0]) 2 40 underSliceAcc hi2 hx0 hx1 hx2 rfl (by decide) (.slice po n co) n vs rfl ho ⟨W2.heap.size, 0, none⟩ 1 1 [.string arr, .slice q subs.length d] rfl rfl ?c1 ?c2 ?c3 ?c4 ?c5 ?_)
 case c1 => exact pair_cells rfl
 case c2 => intro u hu; simp at hu; rcases hu with rfl | rfl <;> rfl
 case c3 => unfold maxLen; omega
 case c4 => omega
 case c5 => simp; omega
 intro v' w4 hown' hgrow _ _
 have htag := own_tag ho
 have HRS : Hid (AccsO B w4 v' (xs ++ [(arr, subs)])) := hid (PairsOwn.push (R := AccO) (fun h a b => AccO.grow h a b) HN.out HHE.out hvl hown' hgrow htag ⟨rfl, ha, AffsOwn.ext HCP.out ((Ext.refl W2).alloc _)⟩)
 have hob : ∀ b, (Value.slice po n co).ownBlock = some b → B ≤ b := fun b hb => (ho.lt b hb).1
 have HE4 : Hid (Ext w0 w4) := hid (Ext.grown ((HE.out.trans E2.out).alloc _) hgrow (fun b hb => Nat.le_trans hB0 (hob b hb)))
 have HK4 : Hid (Ka w w4) := hid ((Ka.of_ext (E2.out.alloc _)).trans (Ka.of_grown hgrow htag))
 have HZ4 : Hid (w.heap.size ≤ w4.heap.size) := hid (by have := hgrow.size; simp at this; omega)
 have B4 := blk_tag ((Ext.refl W2).alloc (.cells #[.string arr, .slice q subs.length d] 96) |>.blk B2.out) hgrow htag (by decide)
 obtain ⟨-, -, -, -, -, -, z6'⟩ := blk7 B4
 clear hown' hgrow htag ho hob hvl z6 B4
 go_wp2
 refine wp_loop_rounds 2 ?_
 rw [rounds_succ]; go_wp2
 go_ret
 exact ⟨⟨_, rfl, HRS.out⟩, HE4.out, HK4.out, HZ4.out⟩
theorem l3Reads_kids (dd : Int) (B L : Nat) (IH : RdOf dd B L) (e : Ex) (cs : List Value) (w0 w : World) (v : Value) (xs : List Acc) (hk3 : e.kind ≠ 3) (hsh : shapeB (L + 1) e dd = true) (he : ExR w0 cs e) (hE : Ext w0 w) (hB0 : w0.heap.size ≤ B) (hB1 : B ≤ w.heap.size) (hv : AccsO B w v xs) (hlen : (xs.length : Int) + countE (L + 1) e ≤ 1000) :
  Calls Tryz.prog 68 #[v, .agg cs.toArray] w fun r w' => (∃ v', r = .returned v' ∧ AccsO B w' v' (xs ++ readsE (L + 1) e)) ∧ Ext w0 w' ∧ Ka w w' ∧ w.heap.size ≤ w'.heap.size := by
 obtain ⟨kind, num, ⟨ixs, k⟩, arr, subs, kids⟩ := e
 obtain ⟨u, s, kv, rfl, hu, ha, hs, hkv⟩ := he.parts
 simp only [Ex.kind, Ex.num, Ex.ix, Ex.arr, Ex.subs, Ex.kids] at *
 obtain ⟨pu, cu, rfl, hmu, -⟩ := id hu
 obtain ⟨ps, cs2, rfl, hms⟩ := hs.form
 obtain ⟨pk, ck, rfl, hmk⟩ := hkv.form
 obtain ⟨po, co, rfl⟩ := PairsOwn.slice hv
 obtain ⟨i2, hi2, hx0, hx1, hx2⟩ := info_parts infoAcc
 have hkids := shape_kids hsh
 simp only [Ex.kids] at hkids
 have hcE : countE (L + 1) (.mk kind num (ixs, k) arr subs kids) = 1 + (kids.map (countE L)).sum := by simp [countE, Ex.kids]
 rw [hcE] at hlen
 have HSH := hid hsh; have HE := hid hE; have HV := hid hv; have HS := hid hs; have HK := hid hkv; have HKI := hid hkids; have HLEN := hid hlen
 clear hsh hE hv hs hkv hu he hkids hlen hcE
 have hb3 : (kind == 3) = false := by simpa using hk3
 have HRE : Hid (readsE (L + 1) (.mk kind num (ixs, k) arr subs kids) = kids.flatMap (readsE L)) := hid (by simp [readsE, Ex.kind, Ex.kids, hk3])
 clear hk3
 rw [HRE.out]
 go_enter Tryz.func68, Tryz.ntmps68
 go_wp2
 obtain ⟨W1, hW1⟩ : ∃ W1, w.alloc (.cells #[.int .i64 kind, .int .i64 num, .slice pu ixs.length cu, .int .i64 k, .string arr, .slice ps subs.length cs2, .slice pk kids.length ck] 101) = W1 := ⟨_, rfl⟩
 have E1 : Hid (Ext w W1) := hid (by rw [← hW1]; exact (Ext.refl w).alloc _)
 have B1 := hid (show W1.heap[w.heap.size]? = some (.cells #[.int .i64 kind, .int .i64 num, .slice pu ixs.length cu, .int .i64 k, .string arr, .slice ps subs.length cs2, .slice pk kids.length ck] 101 (0, 0)) by rw [← hW1]; exact blk_at rfl)
 rw [hW1]
 clear hW1
 obtain ⟨n, hn⟩ : ∃ n, kids.length = n := ⟨_, rfl⟩
 have HN := hid hn
 rw [hn] at hmk B1 HK ⊢
 clear hn
 have hz1 := E1.out.size_le
 go_loopw [0, 5] (fun ov i wr => ∃ (j : Nat) (p9 : Option Addr) (n9 c9 : Nat), j ≤ n ∧ i = .int .i64 j ∧ ov = .slice p9 n9 c9 ∧ AccsO B wr (.slice p9 n9 c9) (xs ++ (kids.take j).flatMap (readsE L)) ∧ Ext w0 wr ∧ Ka W1 wr ∧ W1.heap.size ≤ wr.heap.size) (fun _ i _ => n - (intOf i).toNat)
 case atStart => exact ⟨0, _, _, _, by omega, rfl, rfl, by simpa using AccsO.ext HV.out E1.out, HE.out.trans E1.out, Ka.refl _, Nat.le_refl _⟩
 case round =>
  obtain ⟨j, p9, n9, c9, hj, rfl, rfl, hva, hEr, hKr, hzr⟩ := hrel
  have HVA := hid hva; have HER := hid hEr; have HKR := hid hKr
  have BR := hid (hKr _ _ _ _ (by decide) B1.out)
  obtain ⟨y0, y1, y2, y3, y4, y5, y6⟩ := blk7 BR.out
  clear hva hEr hKr
  by_cases hjn : j < n
  ·obtain ⟨x, hx⟩ := get_some (xs := kids) (k := j) (by rw [HN.out]; exact hjn)
   obtain ⟨p', c', us, hv', hl', hc', hk'⟩ := HK.out
   simp only [Value.slice.injEq] at hv'
   obtain ⟨rfl, -, rfl⟩ := hv'
   obtain ⟨b, off, rfl, hb, hcell⟩ := hc' j x hx
   have hxr := hk' j x hx
   obtain ⟨u2, s2, v2, hcs, -, -, -, -⟩ := hxr.parts
   rw [hcs] at hcell hxr
   have c0 := HER.out.keep (hcell 0 _ rfl); have c1 := HER.out.keep (hcell 1 _ rfl); have c2 := HER.out.keep (hcell 2 _ rfl); have c3 := HER.out.keep (hcell 3 _ rfl); have c4 := HER.out.keep (hcell 4 _ rfl); have c5 := HER.out.keep (hcell 5 _ rfl); have c6 := HER.out.keep (hcell 6 _ rfl)
   rw [Nat.add_zero] at c0
   have HXS := hid (HKI.out x (List.mem_of_getElem? hx)); have HXR := hid hxr
   have HBD : Hid (((xs ++ (kids.take j).flatMap (readsE L)).length : Int) + countE L x ≤ 1000) := hid (by
    have h1 := sum_take_next (f := countE L) (fun y hy => (countE_bd L y (HKI.out y hy)).1) hx
    have h2 := flat_len (L := L) (kids.take j)
    have h3 := HLEN.out
    rw [List.length_append]
    omega)
   have HFT := hid (flat_take (L := L) hx)
   clear hx hc' hk' hcell hxr hcs hl'
   go_wp2_with (fail)
   refine (IH x _ w0 wr _ _ HXS.out HXR.out HER.out hB0 (by omega) HVA.out HBD.out).mono ?_
   rintro r w4 ⟨⟨v', rfl, hv4⟩, hE4, hK4, hz4⟩
   obtain ⟨p8, n8, c8, rfl⟩ : ∃ p n c, v' = .slice p n c := by obtain ⟨p, c, h⟩ := PairsOwn.slice hv4; exact ⟨p, _, c, h⟩
   have HV4 : Hid (AccsO B w4 (.slice p8 n8 c8) (xs ++ (kids.take (j + 1)).flatMap (readsE L))) := hid (by rw [HFT.out, ← List.append_assoc]; exact hv4)
   have HE4 := hid hE4; have HK4 := hid (HKR.out.trans hK4)
   clear hv4 hE4 hK4 c0 c1 c2 c3 c4 c5 c6 y0 y1 y2 y3 y4 y5 y6
   go_wp2
   go_roundw
   case rel => exact ⟨j + 1, _, _, _, by omega, by go_num, rfl, HV4.out, HE4.out, HK4.out, by omega⟩
   case measure => simp [intOf]; omega
  ·obtain rfl : j = n := by omega
   have HRS : Hid (AccsO B wr (.slice p9 n9 c9) (xs ++ kids.flatMap (readsE L))) := hid (by have h := HVA.out; rw [List.take_of_length_le (by rw [HN.out]; omega)] at h; exact h)
   have HKF := hid ((Ka.of_ext E1.out).trans HKR.out)
   go_wp2
   go_ret
   exact ⟨⟨_, rfl, HRS.out⟩, HER.out, HKF.out, by omega⟩
theorem l3Reads_any (dd : Int) (B : Nat) : ∀ (L : Nat), RdOf dd B L
 | 0 => fun e cs w0 w v xs hsh he hE hB0 hB1 hv hlen => by simp [shapeB] at hsh
 | L + 1 => fun e cs w0 w v xs hsh he hE hB0 hB1 hv hlen => by
  by_cases hk3 : e.kind = 3
  ·exact l3Reads_read dd B L e cs w0 w v xs hk3 hsh he hE hB0 hB1 hv hlen
  ·exact l3Reads_kids dd B L (l3Reads_any dd B L) e cs w0 w v xs hk3 hsh he hE hB0 hB1 hv hlen
end Go.Proofs.YtggpjapmhakklaaGreat
namespace Go.Proofs.YtggpjapmhakklaaGreat
open Go.Lib (hid)
open Go.RowKit
theorem IntsAt.cl {w : World} {p : Option Addr} {n c : Nat} {xs : List Int} (h : IntsAt w (.slice p n c) xs) : n ≤ 9223372036854775807 ∧ ∀ i x, xs[i]? = some x → ∃ b off, p = some ⟨b, off, none⟩ ∧ w.cell? ⟨b, off + i, none⟩ = some (.int .i64 x) := by
 obtain ⟨p', c', e, hm, hc⟩ := h
 simp only [Value.slice.injEq] at e
 obtain ⟨rfl, rfl, rfl⟩ := e
 exact ⟨hm, hc⟩
end Go.Proofs.YtggpjapmhakklaaGreat
