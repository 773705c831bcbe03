/- The texts V7 I2 Shelf, joined. No statement is proved here. -/
import Derived.Test.YtmhldhjpfeageabGreatK31
import Derived.OrdersHeld
import Derived.Test.YtmhldhjpfeageabGreatK39
import Derived.Test.YtmhldhjpfeageabGreatK24
import Derived.Test.YtmhldhjpfeageabGreatK28
import Derived.Shelf.SlIterI.Nil
import Derived.Shelf.SortM.Plain
import Derived.Shelf.SortM.SortNone
import Derived.Ground.GgzProg
import Derived.Ground.SlgmProg
import Derived.Test.YtmhldhjpfeageabGreatProg
/- Regions in any order: an invariant that every operation keeps holds behind every order (no order is branched over). No statement is proved here. -/
namespace Go.Proofs.YtmhldhjpfeageabGreat
open Go.RowKit
theorem filter_le {α : Type} {p p' : α → Bool} (h : ∀ x, p' x = true → p x = true) : ∀ l : List α, (l.filter p').length ≤ (l.filter p).length
 | [] => Nat.le_refl _
 | x :: l => by
  have ih := filter_le h l
  simp only [List.filter_cons]
  cases h1 : p' x with
  | true => rw [h x h1]; simp only [if_true, List.length_cons]; omega
  | false =>
   cases h2 : p x with
   | true => simp only [Bool.false_eq_true, if_false, if_true, List.length_cons]; omega
   | false => simp only [Bool.false_eq_true, if_false]; exact ih
theorem filter_lt {α : Type} {p p' : α → Bool} (h : ∀ x, p' x = true → p x = true) {i : α} (hp : p i = true) (hp' : p' i = false) : ∀ l : List α, i ∈ l → (l.filter p').length < (l.filter p).length
 | x :: l, hm => by
  have hle := filter_le h l
  simp only [List.filter_cons]
  rcases List.mem_cons.1 hm with rfl | hm
  ·rw [hp, hp']; simp only [Bool.false_eq_true, if_false, if_true, List.length_cons]; omega
  ·have ih := filter_lt h hp hp' l hm
   cases h1 : p' x with
   | true => rw [h x h1]; simp only [if_true, List.length_cons]; omega
   | false =>
    cases h2 : p x with
    | true => simp only [Bool.false_eq_true, if_false, if_true, List.length_cons]; omega
    | false => simp only [Bool.false_eq_true, if_false]; exact ih
def leftN (ops : Array Oper) (listed : Array Bool) : Nat := ((List.range ops.size).filter (fun i => !listed.getD i true)).length
theorem leftN_step {md : Region.Mode} {ops : Array Oper} {listed : Array Bool} {i : Nat} (h : i ∈ Region.ready md ops listed) : leftN ops (listed.setIfInBounds i true) < leftN ops listed := by
 obtain ⟨h0, o, ho, -⟩ := mem_ready.1 h
 have hlt : i < ops.size := (Array.getElem?_eq_some_iff.1 ho).1
 refine filter_lt (fun x hx => ?_) (by rw [h0]; rfl) ?_ _ (List.mem_range.2 hlt)
 ·by_cases e : i = x
  ·subst e
   have hli : i < listed.size := by
    rcases Nat.lt_or_ge i listed.size with h' | h'
    ·exact h'
    ·simp [Array.getElem?_eq_none h'] at h0
   simp [hli] at hx
  ·rwa [getD_set_ne true e] at hx
 ·have hli : i < listed.size := by
   rcases Nat.lt_or_ge i listed.size with h' | h'
   ·exact h'
   ·simp [Array.getElem?_eq_none h'] at h0
  simp [hli]
theorem ready_nil {md : Region.Mode} {ops : Array Oper} {listed : Array Bool} (h : leftN ops listed = 0) : Region.ready md ops listed = [] := by
 cases hr : Region.ready md ops listed with
 | nil => rfl
 | cons i r => have := leftN_step (md := md) (ops := ops) (listed := listed) (i := i) (by rw [hr]; simp); omega
theorem wpAnyH_inv {P : Program} {md : Region.Mode} {ops : Array Oper} {Q : Exit → Act → World → Prop} {S : World → Prop} (I : Array Bool → Act → World → Prop)
  (hs : ∀ listed a w i, I listed a w → i ∈ Region.ready md ops listed → wpOp P ops Q i (fun a' w' => S w' ∧ I (listed.setIfInBounds i true) a' w') a w)
  (he : ∀ listed a w, I listed a w → Region.ready md ops listed = [] → Q .normal a w) :
  ∀ (fuel : Nat) (listed : Array Bool) (a : Act) (w : World), leftN ops listed ≤ fuel → I listed a w → wpAnyH P md ops Q S fuel listed a w
 | 0, listed, a, w, hf, hi => ⟨ready_nil (by omega), he _ _ _ hi (ready_nil (by omega))⟩
 | fuel + 1, listed, a, w, hf, hi => ⟨fun h => he _ _ _ hi h, fun i hr => wpOp_mono (fun a' w' h => ⟨h.1, wpAnyH_inv I hs he fuel _ a' w' (by have := leftN_step hr; omega) h.2⟩) (hs _ _ _ _ hi hr)⟩
end Go.Proofs.YtmhldhjpfeageabGreat
/- An instance that is one of a program's; the model's InstanceCells. No statement is proved here. -/
namespace Go.Proofs.YtmhldhjpfeageabGreat
open Go.RowKit Go.Maps
def atB (ps : List Pt) (i j : Int) (pt : List Int) : Bool := decide (0 ≤ i) && match ps[i.toNat]? with
 | none => false
 | some x => (decide (0 ≤ j) && decide (j < (x.2.length : Int))) && pointB x.1 pt
def stAt (ps : List Pt) (i j : Int) : St := ((ps.getD i.toNat ([], [])).2).getD j.toNat noSt
def icOk (ars : List Arr) (ps : List Pt) (i j : Int) (pt : List Int) : Bool := progB ars ps && atB ps i j pt
def icW (ars : List Arr) (ps : List Pt) (i j : Int) (pt : List Int) : Int := if icOk ars ps i j pt = true then writeCell ars (stAt ps i j) pt else 0
theorem stAt_eq {ps : List Pt} {i j : Int} {x : Pt} {s : St} (hx : ps[i.toNat]? = some x) (hs : x.2[j.toNat]? = some s) : stAt ps i j = s := by
 unfold stAt; simp only [List.getD_eq_getElem?_getD, hx, hs, Option.getD_some]
theorem npts_point {ars : List Arr} {p : Pt} (h : partB ars p = true) (pt : List Int) : pt ∈ nptsL p.1 ↔ pointB p.1 pt = true := by
 simp only [partB, Bool.and_eq_true, decide_eq_true_eq, List.all_eq_true, stOkB] at h
 obtain ⟨hn, ⟨h1, -⟩, ha⟩ := h
 obtain ⟨s, hs⟩ := get_some (xs := p.2) (k := 0) (by omega)
 have hp := (ha s (List.mem_of_getElem? hs)).2
 rw [nptsL_iff hn]
 unfold pointB
 simp only [Bool.and_eq_true, decide_eq_true_eq, List.all_eq_true, List.mem_range]
 constructor
 ·rintro ⟨h2, h3⟩
  exact ⟨nptsB_nest hn, (hp pt ((nptsL_iff hn pt).2 ⟨h2, h3⟩)).2, h2, h3⟩
 ·rintro ⟨-, -, h2, h3⟩
  exact ⟨h2, h3⟩
theorem atB_iff {ars : List Arr} {ps : List Pt} (hb : progB ars ps = true) {i j : Int} {pt : List Int} : atB ps i j pt = true ↔ ∃ y ∈ insM ps, (y.1.1 : Int) = i ∧ (y.1.2.1 : Int) = j ∧ y.1.2.2 = pt := by
 obtain ⟨-, -, hpo, -⟩ := progB_inv hb
 constructor
 ·intro h
  unfold atB at h
  cases hx : ps[i.toNat]? with
  | none => rw [hx] at h; simp at h
  | some x =>
   rw [hx] at h
   simp only [Bool.and_eq_true, decide_eq_true_eq] at h
   obtain ⟨h0, ⟨h1, h2⟩, h3⟩ := h
   obtain ⟨s, hs⟩ := get_some (xs := x.2) (k := j.toNat) (by omega)
   exact ⟨((i.toNat, j.toNat, pt), s), insM_mem.2 ⟨x, hx, (npts_point (hpo x (List.mem_of_getElem? hx)) pt).2 h3, hs⟩, by simp; omega, by simp; omega, rfl⟩
 ·rintro ⟨y, hy, rfl, rfl, rfl⟩
  obtain ⟨p, h1, h2, h3⟩ := insM_mem.1 hy
  unfold atB
  rw [Int.toNat_natCast, h1]
  have := (List.getElem?_eq_some_iff.1 h3).1
  simp only [(npts_point (hpo p (List.mem_of_getElem? h1)) _).1 h2, Bool.and_eq_true, decide_eq_true_eq]
  refine ⟨by omega, ⟨by omega, by omega⟩, ?_⟩
  first | trivial | rfl
theorem stAt_ins {ps : List Pt} {y : InsM} (hy : y ∈ insM ps) : stAt ps (y.1.1 : Int) (y.1.2.1 : Int) = y.2 := by
 obtain ⟨p, h1, -, h3⟩ := insM_mem.1 hy
 exact stAt_eq (by rw [Int.toNat_natCast]; exact h1) (by rw [Int.toNat_natCast]; exact h3)
set_option linter.unusedVariables false in
set_option linter.unusedSimpArgs false in
set_option maxRecDepth 100000 in
set_option maxHeartbeats 2000000 in
theorem l4In_any (q1 : Option Addr) (na c1 : Nat) (q2 : Option Addr) (np c2 : Nat) (ps : List Pt) (i j : Int) (pp : Option Addr) (n c : Nat) (pt : List Int) (w : World) (hnp : ps.length = np) (hl : np ≤ 9223372036854775807) (hp : PartsAt w (.slice q2 np c2) ps) (hi : IntsAt w (.slice pp n c) pt) (hc : n ≤ c) :
  Calls Tryz.prog 55 #[.agg #[.slice q1 na c1, .slice q2 np c2], .agg #[.int .i64 i, .int .i64 j, .slice pp n c]] w fun e w' => e = .returned (.bool (atB ps i j pt)) ∧ Ext w w' := by
 have HP := Lib.hid hp; have HI := Lib.hid hi; have HNP := Lib.hid hnp; clear hp hi hnp
 obtain ⟨ans, hans⟩ : ∃ a, atB ps i j pt = a := ⟨_, rfl⟩
 have HA := Lib.hid hans
 rw [hans]
 clear hans
 by_cases h0 : i < 0
 ·have hd0 : decide (i < 0) = true := by simpa using h0
  obtain rfl : ans = false := by rw [← HA.out]; unfold atB; rw [decide_eq_false (show ¬ 0 ≤ i by omega)]; rfl
  go_enter Tryz.func55, Tryz.ntmps55
  go_wp2
  go_ret
  exact ⟨rfl, ((Ext.refl w).alloc _).alloc _⟩
 ·have hd0 : decide (i < 0) = false := by simpa using h0
  obtain ⟨k, rfl⟩ : ∃ k : Nat, i = k := ⟨i.toNat, by omega⟩
  by_cases h1 : np ≤ k
  ·have hd1 : decide ((np : Int) ≤ (k : Int)) = true := by simp; omega
   obtain rfl : ans = false := by rw [← HA.out]; unfold atB; rw [Int.toNat_natCast, List.getElem?_eq_none (by rw [HNP.out]; exact h1)]; simp
   clear h0
   go_enter Tryz.func55, Tryz.ntmps55
   go_wp2
   go_ret
   exact ⟨rfl, ((Ext.refl w).alloc _).alloc _⟩
  ·have hd1 : decide ((np : Int) ≤ (k : Int)) = false := by simp; omega
   obtain ⟨x, hx⟩ := get_some (xs := ps) (k := k) (by rw [HNP.out]; omega)
   obtain ⟨b, off, p1, m1, p2, m2, rfl, d0, d1, hbb, hls, hss⟩ := HP.out.elem hx
   have hkI : (k : Int) < (np : Int) := by omega
   have hAx : ans = ((decide (0 ≤ j) && decide (j < (x.2.length : Int))) && pointB x.1 pt) := by rw [← HA.out]; unfold atB; rw [Int.toNat_natCast, hx]; simp
   obtain ⟨nl, hnl⟩ : ∃ m, x.1.length = m := ⟨_, rfl⟩
   obtain ⟨nb, hnb⟩ : ∃ m, x.2.length = m := ⟨_, rfl⟩
   rw [hnl] at d0 hls
   rw [hnb] at d1 hss hAx
   have HX := Lib.hid hAx; have HLS := Lib.hid hls; have HNL := Lib.hid hnl
   clear hAx hls hss hx hnl hnb HA h0 h1
   by_cases h2 : 0 ≤ j ∧ j < nb
   ·have hd2 : decide (0 ≤ j) = true := by simp; omega
    have hd3 : decide (j < (nb : Int)) = true := by simp; omega
    have HX2 : Hid (ans = pointB x.1 pt) := Lib.hid (by rw [HX.out, hd2, hd3]; rfl)
    clear HX h2
    go_enter Tryz.func55, Tryz.ntmps55
    go_wp2_with (fail)
    refine (specPointIn_any p1 nl m1 x.1 _ pt _ HNL.out (HLS.out.ext ((((Ext.refl w).alloc _).alloc _).alloc _)) (HI.out.ext ((((Ext.refl w).alloc _).alloc _).alloc _)) (fun q n' d e => by cases e; exact hc)).mono ?_
    rintro e w1 ⟨rfl, hE⟩
    have E1 := Lib.hid (((((Ext.refl w).alloc _).alloc _).alloc _).trans hE)
    clear hE
    go_wp2
    go_ret
    exact ⟨ret_bool HX2.out.symm, E1.out⟩
   ·obtain rfl : ans = false := by
     rw [HX.out]
     by_cases h3 : 0 ≤ j
     ·rw [decide_eq_false (show ¬ j < (nb : Int) by omega)]; simp
     ·rw [decide_eq_false h3]; rfl
    clear HX
    by_cases h3 : 0 ≤ j
    ·have hd2 : decide (0 ≤ j) = true := by simpa using h3
     have hd3 : decide (j < (nb : Int)) = false := by simp; omega
     clear h2 h3
     go_enter Tryz.func55, Tryz.ntmps55
     go_wp2
     go_ret
     exact ⟨rfl, (((Ext.refl w).alloc _).alloc _).alloc _⟩
    ·have hd2 : decide (0 ≤ j) = false := by simpa using h3
     clear h2 h3
     go_enter Tryz.func55, Tryz.ntmps55
     go_wp2
     go_ret
     exact ⟨rfl, (((Ext.refl w).alloc _).alloc _).alloc _⟩
end Go.Proofs.YtmhldhjpfeageabGreat
/-
 DERIVED: THE SHELF's CONTRACTS AT THIS DUMP, IN PLAIN WORDS (tools/lay-plain.mjs out of 'YtmhldhjpfeageabGreatShelf.lean', which tools/lay-shelf.mjs wrote): THE SAME DECLARATIONS UNDER THE SAME NAMES: 'import', 'namespace', 'open', 'def', 'theorem' AND NOTHING ELSE: no command of the shelf's: FOR A HAND-IN. Each laying: the table of numbers ('.._ren') and one theorem, a field a fact of the dump's own or the kernel's comparison; each contract: ONE APPLICATION.
-/
namespace Go.Proofs
open Go.Shelf
end Go.Proofs
