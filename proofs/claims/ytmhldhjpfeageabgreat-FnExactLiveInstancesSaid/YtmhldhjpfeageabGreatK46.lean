/- The texts G61 G62, joined. No statement is proved here. -/
import Derived.Test.YtmhldhjpfeageabGreatK45
import Derived.Test.YtmhldhjpfeageabGreatK49
import Derived.Test.YtmhldhjpfeageabGreatK48
import Derived.Maps.RangeWalk
import Derived.Shelf.SlIterI.Nil
import Derived.Shelf.SortM.Plain
import Derived.Shelf.SortM.SortNone
/- Live instances: that the program's way of marking them (all last writers first) marks the same as the model's. Pure. No statement is proved here. -/
namespace Go.Proofs.YtmhldhjpfeageabGreat
open Go.RowKit Go.Maps
theorem lastTo_false {us : List Us} {c : Int} {i k j : Nat} {y : Us} (hj : us[j]? = some y) (h1 : i < j) (h2 : j < k) (h3 : y.2 = c) : lastTo us c i k = false := by
 unfold lastTo
 rw [List.all_eq_false]
 refine ⟨y, ?_, by simp [h3]⟩
 rw [List.mem_iff_getElem?]
 refine ⟨j - (i + 1), ?_⟩
 rw [List.getElem?_drop, List.getElem?_take, if_pos (by omega), show i + 1 + (j - (i + 1)) = j by omega]
 exact hj
theorem lastW_iff {us : List Us} : ∀ {k : Nat}, k ≤ us.length → ∀ {c : Int} {n : Nat}, lastW us k c = some n ↔ ∃ u, us[n]? = some u ∧ n < k ∧ u.2 = c ∧ lastTo us c n k = true := by
 intro k
 induction k with
 | zero => intro _ c n; simp [lastW]
 | succ k ih =>
  intro hk c n
  obtain ⟨u, hu⟩ := get_some (xs := us) (k := k) (by omega)
  rw [lastW_next c hu]
  by_cases e : c = u.2
  ·rw [if_pos e]
   constructor
   ·intro h
    cases h
    exact ⟨u, hu, by omega, e.symm, lastTo_start us c k⟩
   ·rintro ⟨x, hx, h1, h2, h3⟩
    rcases Nat.lt_or_ge n k with h | h
    ·rw [lastTo_false hu h (by omega) e.symm] at h3; cases h3
    ·obtain rfl : n = k := by omega
     rfl
  ·rw [if_neg e, ih (by omega)]
   constructor
   ·rintro ⟨x, hx, h1, h2, h3⟩
    refine ⟨x, hx, by omega, h2, ?_⟩
    rw [lastTo_next hu (by omega), h3]
    simpa using Ne.symm e
   ·rintro ⟨x, hx, h1, h2, h3⟩
    have hnk : n ≠ k := fun h => by subst h; rw [hu] at hx; cases hx; exact e h2.symm
    refine ⟨x, hx, by omega, h2, ?_⟩
    rw [lastTo_next hu (by omega), Bool.and_eq_true] at h3
    exact h3.1
theorem lastB_iff {us : List Us} {n : Nat} : lastB us n = true ↔ ∃ c, lastW us us.length c = some n := by
 constructor
 ·intro h
  unfold lastB at h
  cases hu : us[n]? with
  | none => rw [hu] at h; cases h
  | some u =>
   rw [hu] at h
   exact ⟨u.2, (lastW_iff (Nat.le_refl _)).2 ⟨u, hu, (List.getElem?_eq_some_iff.1 hu).1, rfl, h⟩⟩
 ·rintro ⟨c, h⟩
  obtain ⟨u, hu, -, rfl, h3⟩ := (lastW_iff (Nat.le_refl _)).1 h
  unfold lastB
  rw [hu]
  exact h3
def pvTo (us : List Us) (M : Nat) (P0 : List Int) : Nat → List Int
 | 0 => P0
 | k + 1 => if ((M - 1 - k : Nat) : Int) ∈ pvTo us M P0 k then pvTo us M P0 k ++ srcB us (M - 1 - k) else pvTo us M P0 k
theorem rdS_mem {us : List Us} {i : Nat} {u : Us} (hu : us[i]? = some u) {n : Int} (hn : 0 ≤ n) : n ∈ rdS us i u.1 u.1.length ↔ n ∈ srcB us i := by
 rw [srcB_at hu]
 unfold rdS
 rw [List.take_length, List.mem_filter, decide_eq_true_eq]
 exact ⟨fun h => h.1, fun h => ⟨h, hn⟩⟩
theorem pv_live {us : List Us} {P0 : List Int} (h0 : ∀ n : Nat, (n : Int) ∈ P0 ↔ lastB us n = true) : ∀ k, k ≤ us.length → ∀ n : Nat, (n : Int) ∈ pvTo us us.length P0 k ↔ (n : Int) ∈ liveTo us us.length k ∨ lastB us n = true := by
 intro k
 induction k with
 | zero => intro _ n; simp [pvTo, liveTo, h0 n]
 | succ k ih =>
  intro hk n
  have ih := ih (by omega)
  obtain ⟨i, hi⟩ : ∃ i, us.length - 1 - k = i := ⟨_, rfl⟩
  obtain ⟨u, hu⟩ := get_some (xs := us) (k := i) (by omega)
  show (n : Int) ∈ (if ((us.length - 1 - k : Nat) : Int) ∈ pvTo us us.length P0 k then pvTo us us.length P0 k ++ srcB us (us.length - 1 - k) else pvTo us us.length P0 k) ↔ (n : Int) ∈ lvStep1 us (us.length - 1 - k) (liveTo us us.length k) ∨ _
  rw [hi]
  by_cases hc : (i : Int) ∈ liveTo us us.length k ∨ lastB us i = true
  ·rw [if_pos ((ih i).2 hc), lvStep1_yes hu hc, List.mem_append, List.mem_append, List.mem_append, List.mem_singleton, ih n, rdS_mem hu (by omega)]
   constructor
   ·rintro ((h | h) | h)
    ·exact .inl (.inl (.inl h))
    ·exact .inr h
    ·exact .inl (.inr h)
   ·rintro (((h | h) | h) | h)
    ·exact .inl (.inl h)
    ·obtain rfl : n = i := by omega
     exact .inl hc
    ·exact .inr h
    ·exact .inl (.inr h)
  ·have h1 : (i : Int) ∉ liveTo us us.length k := fun h => hc (.inl h)
   have h2 : lastB us i = false := by
    cases h : lastB us i with
    | false => rfl
    | true => exact absurd (.inr h) hc
   rw [if_neg (fun h => hc ((ih i).1 h)), lvStep1_no h1 h2]
   exact ih n
theorem live_last {us : List Us} {n : Nat} (hn : n < us.length) (h : lastB us n = true) : (n : Int) ∈ liveTo us us.length us.length := by
 have key : ∀ k, k ≤ us.length → us.length - k ≤ n → (n : Int) ∈ liveTo us us.length k := by
  intro k
  induction k with
  | zero => intro _ h2; omega
  | succ k ih =>
   intro hk h2
   obtain ⟨i, hi⟩ : ∃ i, us.length - 1 - k = i := ⟨_, rfl⟩
   obtain ⟨u, hu⟩ := get_some (xs := us) (k := i) (by omega)
   show (n : Int) ∈ lvStep1 us (us.length - 1 - k) (liveTo us us.length k)
   rw [hi]
   by_cases e : n = i
   ·subst e
    rw [lvStep1_yes hu (.inr h)]
    simp
   ·have hm := ih (by omega) (by omega)
    by_cases hc : (i : Int) ∈ liveTo us us.length k ∨ lastB us i = true
    ·rw [lvStep1_yes hu hc]; simp [hm]
    ·have h1 : (i : Int) ∉ liveTo us us.length k := fun h => hc (.inl h)
     have h2 : lastB us i = false := by
      cases h : lastB us i with
      | false => rfl
      | true => exact absurd (.inr h) hc
     rw [lvStep1_no h1 h2]; exact hm
 exact key us.length (Nat.le_refl _) (by omega)
theorem pv_fl {us : List Us} {P0 : List Int} (h0 : ∀ n : Nat, (n : Int) ∈ P0 ↔ lastB us n = true) : fl us.length (pvTo us us.length P0 us.length) = fl us.length (liveTo us us.length us.length) := by
 unfold fl
 congr 1
 refine List.filter_congr (fun j hj => ?_)
 rw [Bool.eq_iff_iff, decide_eq_true_eq, decide_eq_true_eq, pv_live h0 us.length (Nat.le_refl _) j]
 exact ⟨fun h => h.elim id (fun h => live_last (List.mem_range.1 hj) h), .inl⟩
end Go.Proofs.YtmhldhjpfeageabGreat
/- The program's LiveInstances. No statement is proved here. -/
namespace Go.Proofs.YtmhldhjpfeageabGreat
open Go.RowKit Go.Maps Go.Sort Go.Shelf
theorem key_same (c x : Int) : (Lit.int .i64 c).sameKey (Lit.int .i64 x) = decide (c = x) := by simp [Lit.sameKey]
theorem next_I {ops : Array Oper} {rest : List Oper} {o : Oper} {a : Act} {Q : Exit → Act → World → Prop} (w : World) (hg : o.guard = none) (it : Operand) (hop : o.op = Op.next it false) {b r n : Nat} {f : Int → Option Nat} {D : DataW Value} {left : Lit → Bool} {cnt : Nat}
  (hit : a.eval it = .pointer (some ⟨r, 0, none⟩)) (h : w.ranges Tryz.prog 3 rawE b r n D left cnt) (hF : ∀ c v, vF f c = some v → ∀ z, D.atKey (.int .i64 c) z = .held v) (hsub : ∀ c : Int, left (.int .i64 c) = true → (f c).isSome = true)
  (hDone : (∀ kl, left kl = false) → wpList Tryz.prog ops Q rest (a.put o.dst (.tuple #[.bool false])) w)
  (hMore : ∀ (x : Int) (m : Nat) (w' : World) (cnt' : Nat), f x = some m → left (.int .i64 x) = true → w'.ranges Tryz.prog 3 rawE b r n D (fun z => left z && !z.sameKey (.int .i64 x)) cnt' → cnt' < cnt → w.grownBy w' (some r) → w'.heap.size = w.heap.size →
   (Instr.entry (.pointer (some ⟨r, 0, none⟩))).run Tryz.prog w' = .ok (.tuple #[.int .i64 x, .int .i64 (m : Int)]) w' → wpList Tryz.prog ops Q rest (a.put o.dst (.tuple #[.bool true, .int .i64 x, .int .i64 (m : Int)])) w') :
  wpList Tryz.prog ops Q (o :: rest) a w := by
 refine wpList_next_ranges w hg it hop 3 keyInt rawE (fun x : Int => Value.int .i64 x) (fun v : Value => v) (fun key kl hk => ?_) (fun v y _ => ⟨v, rfl⟩) b r n D left cnt hit h (fun _ => hDone) ?_
 ·obtain ⟨x, rfl, -, -⟩ := Maps.keyOf_int_inv Tryz.underlying3 hk
  exact ⟨x, rfl⟩
 ·intro x c kl y w' cnt' hk hl hr hat hrg hlt hgr hsz hen
  obtain ⟨x', e, rfl, -⟩ := Maps.keyOf_int_inv Tryz.underlying3 hk
  cases e
  obtain ⟨m, hm⟩ := Option.isSome_iff_exists.1 (hsub x hl)
  have hv : vF f x = some (.int .i64 (m : Int)) := by unfold vF; rw [hm]; rfl
  have h1 := hat (.held c)
  rw [hF x _ hv] at h1
  simp only [rawE, Option.some.injEq] at hr
  subst hr
  have hc : Value.int .i64 (m : Int) = c := by simpa using h1
  subst hc
  exact hMore x m w' cnt' hm hl hrg hlt hgr hsz hen
theorem srcB_bd {us : List Us} {t : Nat} (ht : t < us.length) : ∀ x ∈ srcB us t, -1 ≤ x ∧ x < (t : Int) := by
 obtain ⟨u, hu⟩ := get_some (xs := us) (k := t) ht
 intro x hx
 rw [srcB_at hu] at hx
 obtain ⟨c, -, rfl⟩ := List.mem_map.1 hx
 exact srcI_bd us t c
theorem pv_bd {us : List Us} {P0 : List Int} (h0 : ∀ x ∈ P0, -1 ≤ x ∧ x < (us.length : Int)) : ∀ k, k ≤ us.length → ∀ x ∈ pvTo us us.length P0 k, -1 ≤ x ∧ x < (us.length : Int) := by
 intro k
 induction k with
 | zero => intro _; exact h0
 | succ k ih =>
  intro hk x hx
  have ih := ih (by omega)
  unfold pvTo at hx
  split at hx
  ·rcases List.mem_append.1 hx with h | h
   ·exact ih x h
   ·have := srcB_bd (us := us) (t := us.length - 1 - k) (by omega) x h
    omega
  ·exact ih x hx
theorem keys_sorted {w : World} {b n N : Nat} {P : List Int} {D : DataW Value} {ss : List Int} (hown : w.ownsMap Tryz.prog 3 rawE b n D) (hD : ∀ c : Int, Maps.has D (.int .i64 c) = (delF (setFn P) (-1) c).isSome) (hb : ∀ x ∈ P, -1 ≤ x ∧ x < (N : Int)) (hs : ss.Perm (intKeys D)) :
  ss.mergeSort leI = fl N P := by
 have hT : (fl N P).Perm (intKeys D) := by
  refine CollectedI.perm (left := fun _ => false) ⟨(fl_asc N P).imp (fun h => by omega), fun x => ?_⟩ hown keyInt Tryz.underlying3 (fun _ => rfl)
  rw [fl_mem, hD x]
  unfold delF setFn
  by_cases e : x = -1
  ·subst e; simp
  ·by_cases h : x ∈ P
   ·have := hb x h
    simp [e, h]
    omega
   ·simp [e, h]
 rw [mergeSort_of_perm_i (hs.trans hT.symm)]
 exact List.mergeSort_of_pairwise ((fl_asc N P).imp (fun h => by simp only [leI, decide_eq_true_eq]; omega))
theorem Tryz.sortsI (m : Nat) : AnyZI.SortsIn Tryz.prog Tryz.sortedI_ren Fence.wide m :=
 ⟨fun blk off cap ss W hH hblk hsz => callsIn_wide.2 (AnyM.slices_Sort_int Tryz.sortI blk off cap ss W hH hblk hsz),
  fun p cap W => callsIn_wide.2 (AnyM.slices_Sort_int_none Tryz.sortI p cap W)⟩
theorem keys_I (mb : Option Nat) (W : World) : Calls Tryz.prog 72 #[.map mb] W fun e w' => e = .returned (.func (.func 105) #[] #[.pointer (some ⟨W.heap.size, 0, none⟩)]) ∧ w' = W.alloc (.cells #[.map mb] 129) :=
 (callsIn_wide (n := 5)).1 (AnyZI.keys_in Tryz.keysI Fence.wide 5 trivial rfl mb W)
set_option maxHeartbeats 1000000 in
theorem sorted_I (b nn : Nat) (D0 : DataW Value) (w : World) (hown : w.ownsMap Tryz.prog 3 rawE b nn D0) (hmax : nn ≤ 1000000) :
  Calls Tryz.prog 71 #[.func (.func 105) #[] #[.pointer (some ⟨w.heap.size, 0, none⟩)]] (w.alloc (.cells #[.map (some b)] 129)) fun e w' => ∃ (v : Value) (ss : List Int), e = .returned v ∧ ss.Perm (intKeys D0) ∧
   w'.ownsRow (w.alloc (.cells #[.map (some b)] 129)).heap.size 3 1 v ss.length ((ss.mergeSort (fun x y => decide (x ≤ y))).map encZ) ∧ (v = .slice none 0 0 ↔ ss = []) ∧ Below (w.alloc (.cells #[.map (some b)] 129)).heap.size (w.alloc (.cells #[.map (some b)] 129)) w' := by
 refine (callsIn_wide (n := 5)).1 ?_
 have hbl := hown.lt
 have hsz := hown.size_le
 have hseq : SeqGives Fence.wide 2 Tryz.prog 105 #[.pointer (some ⟨w.heap.size, 0, none⟩)] encZ (fun ss => ss.Perm (intKeys D0)) (Maps.size D0) (w.alloc (.cells #[.map (some b)] 129)) :=
  AnyZI.keys_gives (ρ := Tryz.keysI_ren) { Tryz.keysI with } Fence.wide _ trivial rfl (by omega) w.heap.size b nn D0 _ (by simp) (by simp) (by
   obtain ⟨es, clock, hb, Ft, hs, hD⟩ := hown
   exact ⟨es, clock, (Below.heap_alloc _ _ b hbl).trans hb, Ft, hs, hD⟩)
 exact AnyZI.sorted_in Tryz.sortedI Fence.wide 5 trivial trivial trivial trivial rfl (by omega) (Tryz.sortsI _) (enters_of Tryz.func104 (by kernel_rfl) rfl) 105 #[.pointer (some ⟨w.heap.size, 0, none⟩)] trivial (enters_of Tryz.func105 (by kernel_rfl) rfl) _ _ (by unfold maxLen; omega) (by omega) _ hseq
set_option linter.unusedVariables false in
set_option linter.unusedSimpArgs false in
set_option maxRecDepth 100000 in
set_option maxHeartbeats 4000000 in
theorem LiveInstances_any (v : Value) (ars : List Arr) (ps : List Pt) (w : World) (hp : PrR w v ars ps) :
  Calls Tryz.prog 41 #[v] w fun e w' => (∃ v', e = .returned v' ∧ IntsOwn w.heap.size w' v' (liB ars ps)) ∧ Ext w w' := by
 obtain ⟨qa, ca, qp, cp, rfl, -, -, ha, hps⟩ := hp.parts
 have HA := Lib.hid ha; have HPS := Lib.hid hps
 have hmm := @run_makeMap Tryz.prog
 clear hp ha hps
 go_enter Tryz.func41, Tryz.ntmps41
 go_wp2_with (fail)
 refine (programOf_any qa qp _ ca _ cp ars ps _ rfl rfl (HA.out.ext ((Ext.refl w).alloc _)) (HPS.out.ext ((Ext.refl w).alloc _))).mono ?_
 rintro e w1 ⟨⟨v, rfl, h0, h1⟩, hE⟩
 have HE := Lib.hid (((Ext.refl w).alloc _).trans hE)
 clear hE
 obtain ⟨B0, hB0⟩ : ∃ B0, (w.alloc (.cells #[.slice qa ars.length ca, .slice qp ps.length cp] 32)).heap.size = B0 := ⟨_, rfl⟩
 rw [hB0] at h1
 have hform : ∃ mo T q1 n1 c1 q2 M c2, ∃ es : List Ev, v = .agg #[.map mo, .int .i64 T, .slice q1 n1 c1, .slice q2 M c2] ∧ es.length = M ∧ M ≤ 120 ∧ EvsOwn B0 w1 (.slice q2 M c2) es ∧ (∀ u ∈ es.map (·.2), u.1.length ≤ 1000) ∧ (∀ u ∈ es.map (·.2), (∀ c ∈ u.1, 0 ≤ c ∧ c ≤ 1048576) ∧ 0 ≤ u.2 ∧ u.2 ≤ 1048576) ∧ liB ars ps = fl M (liveTo (es.map (·.2)) M M) := by
  cases hb : progB ars ps with
  | false => exact ⟨_, _, _, _, _, _, _, _, [], h0 hb, rfl, by omega, ⟨[], World.ownsRow_nil _ _ _ _, fun i x h => by simp at h⟩, by simp, by simp, by unfold liB; rw [hb]; simp [fl]⟩
  | true =>
   obtain ⟨Bm, D, q1, c1, q2, c2, rfl, -, -, -, -, he⟩ := h1 hb
   exact ⟨_, _, _, _, _, _, _, _, evsOf ars ps, rfl, rfl, by have := insM_120 hb; simpa [evsOf] using this, he, ev_reads hb, fun u hu => by
    have h1 := ev_cells hb u hu
    have h2 := tot_lt hb
    exact ⟨fun c hc => by have := h1.1 c hc; omega, by omega, by omega⟩, by unfold liB; rw [if_pos hb, usesM_ev]; simp [evsOf]⟩
 obtain ⟨mo, T, q1, n1, c1, q2, M, c2, es, rfl, hM, hM120, hev, hrl, hcb, hans⟩ := hform
 obtain ⟨us, hus⟩ : ∃ us, es.map (·.2) = us := ⟨_, rfl⟩
 rw [hus] at hrl hcb hans
 have HUM : Hid (us.length = M) := Lib.hid (by rw [← hus, List.length_map, hM])
 have HM := Lib.hid hM; have HEV := Lib.hid hev; have HANS := Lib.hid hans; have HUS := Lib.hid hus; have HRL := Lib.hid hrl; have HCB := Lib.hid hcb
 clear h0 h1 hM hev hans hB0 hrl hcb hus
 have E0 := Lib.hid (HE.out.alloc (.cells #[.map mo, .int .i64 T, .slice q1 n1 c1, .slice q2 M c2] 75))
 have HEV0 := Lib.hid (HEV.out.ext ((Ext.refl w1).alloc (.cells #[.map mo, .int .i64 T, .slice q1 n1 c1, .slice q2 M c2] 75)))
 go_wp2_with (fail)
 refine (sources_any mo T q1 n1 c1 q2 M c2 B0 es us _ HM.out hM120 HUS.out HEV0.out HRL.out HCB.out).mono ?_
 rintro e W ⟨⟨v3, MB, nM, rfl, hp3, hmp, hnM, -⟩, hE3⟩
 have E3 := Lib.hid (E0.out.trans hE3)
 obtain ⟨q3, c3, rfl⟩ := hp3.slice
 rw [show ((List.range M).map (srcB us)).length = M by simp] at hp3 ⊢
 have HP3 := Lib.hid hp3
 obtain ⟨D, hown, hDf⟩ := hmp.ext ((Ext.refl W).alloc (.map #[] 0))
 have HMB : Hid (MB < W.heap.size) := Lib.hid hmp.lt
 have HDH : Hid (∀ c : Int, Maps.has D (.int .i64 c) = (lastW us M c).isSome) := Lib.hid (fun c => by rw [(hDf c).1]; unfold vF; cases lastW us M c <;> rfl)
 have HDF : Hid (∀ c v, vF (lastW us M) c = some v → ∀ z, D.atKey (.int .i64 c) z = .held v) := Lib.hid (fun c v h => (hDf c).2 v h)
 have M0 : Hid (IMp (W.alloc (.map #[] 0)) W.heap.size 0 (setFn [])) := Lib.hid (by
  have h := IMp.made W
  have e : setFn [] = (fun _ => none) := by funext x; simp [setFn]
  rw [e]; exact h)
 have HSD : Hid (Maps.size D ≤ nM) := Lib.hid hown.size_le
 clear hp3 hE3 hmp hDf
 obtain ⟨Wa, hWa⟩ : ∃ Wa, W.alloc (.map #[] 0) = Wa := ⟨_, rfl⟩
 have XA : Hid (Ext W Wa) := Lib.hid (by rw [← hWa]; exact (Ext.refl W).alloc _)
 have HSA : Hid (Wa.heap.size = W.heap.size + 1) := Lib.hid (by rw [← hWa]; simp)
 rw [hWa] at hown M0
 obtain ⟨LB, hLB⟩ : ∃ LB, W.heap.size = LB := ⟨_, rfl⟩
 go_wp2_with (first | (at_range; refine wpList_range_own _ rfl _ 126 rfl 3 3 keyInt underWr rawE MB nM D rfl hown ?_; intro wb hrg0 hg0 hs0) | fail)
 go_frame
 rw [hLB] at M0 HSA HMB
 try rw [hLB]
 have HLB := Lib.hid hLB
 have XB : Hid (Ext Wa wb) := Lib.hid (by have h := (Ext.refl Wa).grown hg0 (fun b hb => by cases hb); exact h)
 have MB0 := Lib.hid (M0.out.kept hg0 (by simp))
 obtain ⟨RB, hRB⟩ : ∃ RB, Wa.heap.size = RB := ⟨_, rfl⟩
 rw [hRB] at hrg0 HSA hs0
 try rw [hRB]
 have HRB := Lib.hid hRB
 clear hWa hLB hRB hown M0 hg0 hmm
 go_loopw [9] (fun _ wr => ∃ (left : Lit → Bool) (cnt n : Nat) (P : List Int), wr.ranges Tryz.prog 3 rawE MB RB nM D left cnt ∧ IMp wr LB n (setFn P) ∧ n + cnt ≤ nM ∧ (∀ c : Int, left (.int .i64 c) = true → (lastW us M c).isSome = true) ∧ (∀ m : Int, m ∈ P ↔ ∃ (c : Int) (n : Nat), lastW us M c = some n ∧ left (.int .i64 c) = false ∧ m = n) ∧ Ext W wr) (fun _ wr => wr.rangeLeft MB RB)
 case atStart =>
  refine ⟨_, _, 0, [], hrg0, MB0.out, by have := HSD.out; omega, fun c hc => by rw [← HDH.out c]; exact hc, fun m => ⟨fun h => by simp at h, ?_⟩, XA.out.trans XB.out⟩
  rintro ⟨c, n, h1, h2, -⟩
  rw [HDH.out c, h1] at h2
  cases h2
 case round =>
  obtain ⟨left, cnt, n, P, hrg, hmp, hnc, hsub, hP, hE⟩ := hrel
  have HMP := Lib.hid hmp; have HSUB := Lib.hid hsub; have HPP := Lib.hid hP; have HE := Lib.hid hE
  clear hmp hP hE hsub
  go_wp2_with (first | (at_next; refine next_I _ rfl _ rfl rfl hrg HDF.out HSUB.out ?_ ?_) | fail)
  ·intro hl0
   have HP0 : Hid (∀ n : Nat, (n : Int) ∈ P ↔ lastB us n = true) := Lib.hid (fun n => by
    rw [HPP.out, lastB_iff, HUM.out]
    constructor
    ·rintro ⟨c, n', h1, -, h3⟩
     obtain rfl : n = n' := by omega
     exact ⟨c, h1⟩
    ·rintro ⟨c, h1⟩
     exact ⟨c, n, h1, hl0 _, rfl⟩)
   have HPB : Hid (∀ x ∈ P, -1 ≤ x ∧ x < (us.length : Int)) := Lib.hid (fun x hx => by
    obtain ⟨c, n', h1, -, rfl⟩ := (HPP.out x).1 hx
    have := lastW_ltI h1
    have := HUM.out
    omega)
   have hn120 : n ≤ M := by omega
   have HMPn := HMP
   clear hrg hnc HSUB HPP hl0
   go_wp2
   go_loopw [10] (fun iv wr => ∃ (x : Int) (n : Nat), -1 ≤ x ∧ x < (M : Int) ∧ iv = .int .i64 x ∧ n ≤ M + 1000 * (M - (x + 1).toNat) ∧ IMp wr LB n (setFn (pvTo us M P (M - (x + 1).toNat))) ∧ Ext W wr) (fun iv _ => (intOf iv + 1).toNat)
   case atStart => exact ⟨(M : Int) - 1, n, by omega, by omega, by first | rfl | go_num, by omega, by rw [show M - ((M : Int) - 1 + 1).toNat = 0 by omega]; exact HMP.out, HE.out⟩
   case round =>
    obtain ⟨x, n, hx1, hxM, rfl, hn, hmp, hE⟩ := hrel
    have HM2 := Lib.hid hmp; have HE2 := Lib.hid hE
    clear HMP HE hmp hE hn120
    by_cases h0 : 0 ≤ x
    ·obtain ⟨i, rfl⟩ : ∃ i : Nat, x = i := ⟨x.toNat, by omega⟩
     have hiM : i < M := by omega
     obtain ⟨S, hS⟩ : ∃ S, pvTo us M P (M - ((i : Int) + 1).toNat) = S := ⟨_, rfl⟩
     have HSN : Hid (pvTo us M P (M - ((i : Int) - 1 + 1).toNat) = if (i : Int) ∈ S then S ++ srcB us i else S) := Lib.hid (by
      rw [show M - ((i : Int) - 1 + 1).toNat = (M - ((i : Int) + 1).toNat) + 1 by omega]
      show (if ((M - 1 - (M - ((i : Int) + 1).toNat) : Nat) : Int) ∈ pvTo us M P (M - ((i : Int) + 1).toNat) then pvTo us M P (M - ((i : Int) + 1).toNat) ++ srcB us (M - 1 - (M - ((i : Int) + 1).toNat)) else pvTo us M P (M - ((i : Int) + 1).toNat)) = _
      rw [hS, show M - 1 - (M - ((i : Int) + 1).toNat) = i by omega])
     rw [hS] at HM2
     have hlk := HM2.out.look (T := 129) (e := 4) Tryz.underlying129 (zeroB _) (wfI (c := (i : Int)) (by omega) (by omega))
     rw [setFn_get] at hlk
     have hb0 : decide ((0 : Int) ≤ (i : Int)) = true := by simp
     clear hS
     by_cases hin : (i : Int) ∈ S
     ·rw [decide_eq_true hin] at hlk
      rw [if_pos hin] at HSN
      obtain ⟨g, u, rfl, hcell0, hu⟩ := HP3.out.at2 (i := i) (xs := srcB us i) (by rw [List.getElem?_map, List.getElem?_range hiM]; rfl)
      have hcell := HE2.out.keep hcell0
      clear hcell0
      obtain ⟨pu, cu, rfl⟩ := ints_form hu
      have hR1000 : (srcB us i).length ≤ 1000 := by
       obtain ⟨y, hy⟩ := get_some (xs := us) (k := i) (by rw [HUM.out]; exact hiM)
       rw [srcB_at hy, List.length_map]
       exact HRL.out y (List.mem_of_getElem? hy)
      have HBD : Hid (∀ x ∈ srcB us i, -1 ≤ x ∧ x < (i : Int)) := Lib.hid (srcB_bd (by rw [HUM.out]; exact hiM))
      obtain ⟨rs, hrs⟩ : ∃ rs, srcB us i = rs := ⟨_, rfl⟩
      rw [hrs] at HSN hu hcell hR1000 HBD
      obtain ⟨R, hR⟩ : ∃ R, rs.length = R := ⟨_, rfl⟩
      rw [hR] at hu hcell hR1000
      have HU := Lib.hid hu.at; have HR := Lib.hid hR
      have hiI : (i : Int) < (M : Int) := by omega
      have HM3 : Hid (IMp wr LB n (setFn (S ++ rs.take 0))) := Lib.hid (by simpa using HM2.out)
      clear hrs hu hR hin
      go_wp2
      clear hlk hb0 hcell
      go_loopw [48] (fun jv wq => ∃ (j n2 : Nat), j ≤ R ∧ jv = .int .i64 j ∧ n2 ≤ n + j ∧ IMp wq LB n2 (setFn (S ++ rs.take j)) ∧ Ext W wq) (fun jv _ => R - (intOf jv).toNat)
      case atStart => exact ⟨0, n, by omega, rfl, by omega, HM3.out, HE2.out⟩
      case round =>
       obtain ⟨j, n2, hj, rfl, hn2, hmp, hE⟩ := hrel
       have HM4 := Lib.hid hmp; have HE4 := Lib.hid hE
       clear HM3 HE2 hmp hE HM2
       by_cases hlt : j < R
       ·obtain ⟨y, hy⟩ := get_some (xs := rs) (k := j) (by rw [HR.out]; exact hlt)
        obtain ⟨-, hcl⟩ := (HU.out.ext HE4.out).cl
        obtain ⟨b, off, rfl, hcy⟩ := hcl j y hy
        obtain ⟨yb1, yb2⟩ := HBD.out y (List.mem_of_getElem? hy)
        have HNX : Hid (S ++ rs.take (j + 1) = (S ++ rs.take j) ++ [y]) := Lib.hid (by rw [take_next hy, List.append_assoc])
        have hjI : (j : Int) < (R : Int) := by omega
        clear hcl hy
        go_wp2_with (at_mapUpdate; refine upd_I _ rfl _ _ _ 129 4 rfl Tryz.underlying129 rfl HM4.out (by unfold maxLen; omega) rfl rfl (wfI (by omega) (by omega)) ?_; intro w5 hm5 hg5)
        have E5 : Hid (Ext W w5) := Lib.hid (HE4.out.grown hg5 (fun b hb => by cases hb; exact Nat.le_of_eq HLB.out))
        have HM5 : Hid (IMp w5 LB (n2 + 1) (setFn (S ++ rs.take (j + 1)))) := Lib.hid (by rw [HNX.out, ← setFn_upd]; exact hm5)
        clear hm5 hg5 hcy
        go_wp2
        go_roundw
        case rel => exact ⟨j + 1, n2 + 1, by omega, by go_num, by omega, HM5.out, E5.out⟩
        case measure => first | (simp [intOf]; done) | (simp [intOf]; omega)
       ·obtain rfl : j = R := by omega
        have HM6 : Hid (IMp wr LB n2 (setFn (pvTo us M P (M - ((i : Int) - 1 + 1).toNat)))) := Lib.hid (by rw [HSN.out]; have h := HM4.out; rw [List.take_of_length_le (by rw [HR.out]; omega)] at h; exact h)
        go_wp2
        go_roundw
        case rel => exact ⟨(i : Int) - 1, n2, by omega, by omega, by go_num, by omega, HM6.out, HE4.out⟩
        case measure => first | (simp [intOf]; done) | (simp [intOf]; omega)
     ·rw [decide_eq_false hin] at hlk
      rw [if_neg hin] at HSN
      have HM6 : Hid (IMp wr LB n (setFn (pvTo us M P (M - ((i : Int) - 1 + 1).toNat)))) := Lib.hid (by rw [HSN.out]; exact HM2.out)
      clear hin
      go_wp2
      go_roundw
      case rel => exact ⟨(i : Int) - 1, n, by omega, by omega, by go_num, by omega, HM6.out, HE2.out⟩
      case measure => first | (simp [intOf]; done) | (simp [intOf]; omega)
    ·obtain rfl : x = -1 := by omega
     have hb0 : decide ((0 : Int) ≤ (-1 : Int)) = false := by decide
     rw [show M - ((-1 : Int) + 1).toNat = M by omega] at HM2
     obtain ⟨PV, hPV⟩ : ∃ PV, pvTo us M P M = PV := ⟨_, rfl⟩
     rw [hPV] at HM2
     have HANS2 : Hid (liB ars ps = fl M PV) := Lib.hid (by rw [HANS.out, ← hPV, ← HUM.out]; exact (pv_fl HP0.out).symm)
     have HPVB : Hid (∀ x ∈ PV, -1 ≤ x ∧ x < (M : Int)) := Lib.hid (by rw [← hPV, ← HUM.out]; exact pv_bd HPB.out _ (Nat.le_refl _))
     clear hPV h0
     go_wp2_with (first | (refine del_I _ rfl _ _ 129 4 rfl Tryz.underlying129 rfl HM2.out rfl (wfI (by omega) (by omega)) ?_; intro w5 hm5 hg5) | fail)
     have E5 : Hid (Ext W w5) := Lib.hid (HE2.out.grown hg5 (fun b hb => by cases hb; exact Nat.le_of_eq HLB.out))
     obtain ⟨D2, hown2, hD2⟩ := hm5
     have HOW := Lib.hid hown2; have HD2 := Lib.hid hD2
     have hn6 : n ≤ 1000000 := by omega
     clear hg5 hown2 hD2
     go_wp2_with (fail)
     refine (keys_I (some LB) _).mono ?_
     rintro e w6 ⟨rfl, rfl⟩
     go_wp2_with (fail)
     refine (sorted_I LB n D2 _ HOW.out hn6).mono ?_
     rintro e w7 ⟨v, ss, rfl, hS, hrow, -, hb⟩
     have HSORT : Hid (ss.mergeSort leI = fl M PV) := Lib.hid (keys_sorted HOW.out (fun c => (HD2.out c).1) HPVB.out hS)
     have HLEN : Hid (ss.length = (fl M PV).length) := Lib.hid (by rw [← HSORT.out, List.length_mergeSort])
     have E7 : Hid (Ext w w7) := Lib.hid ((E3.out.trans (E5.out.alloc _)).trans hb)
     have HV : Hid (IntsOwn w.heap.size w7 v (liB ars ps)) := Lib.hid (by
      rw [HANS2.out]
      refine IntsOwn.weak (B := (w5.alloc (.cells #[.map (some LB)] 129)).heap.size) ?_ (E3.out.trans (E5.out.alloc _)).size_le
      have h : w7.ownsRow _ 3 1 v ss.length ((ss.mergeSort leI).map encZ) := hrow
      rw [HSORT.out, HLEN.out] at h
      exact h)
     clear hS hrow hb
     go_wp2
     go_ret
     exact ⟨⟨_, rfl, HV.out⟩, E7.out⟩
  ·intro x m w' cnt' hfx hlx hrg1 hlt hg1 hs1 hen
   have hne : LB ≠ RB := by have := HSA.out; omega
   have hne2 : MB ≠ LB := by have := HMB.out; omega
   have HMP1 := Lib.hid (HMP.out.kept hg1 (by simp [hne]))
   have HE1 : Hid (Ext W w') := Lib.hid (HE.out.grown hg1 (fun b hb => by cases hb; have := HSA.out; have := HLB.out; omega))
   have hm120 := lastW_ltI hfx
   have HFX := Lib.hid hfx; have HLX := Lib.hid hlx; have HRG1 := Lib.hid hrg1
   clear hfx hlx hrg1 hg1 hs1
   go_wp2_with (at_mapUpdate; refine upd_I _ rfl _ _ _ 129 4 rfl Tryz.underlying129 rfl HMP1.out (by unfold maxLen; omega) rfl rfl (wfI (by omega) (by omega)) ?_; intro w2 hmp2 hg2)
   have hrg2 := HRG1.out.kept hg2 (by simp [hne2]) (by simp; exact fun e => hne e.symm)
   have HM2 : Hid (IMp w2 LB (n + 1) (setFn (P ++ [(m : Int)]))) := Lib.hid (by rw [← setFn_upd]; exact hmp2)
   have HE2 : Hid (Ext W w2) := Lib.hid (HE1.out.grown hg2 (fun b hb => by cases hb; exact Nat.le_of_eq HLB.out))
   clear hmp2 hg2 hen
   go_frame
   go_roundw
   case rel =>
    refine ⟨_, cnt', n + 1, P ++ [(m : Int)], hrg2, HM2.out, by omega, fun c hc => HSUB.out c (by simp only [Bool.and_eq_true] at hc; exact hc.1), fun m' => ?_, HE2.out⟩
    rw [List.mem_append, List.mem_singleton, HPP.out]
    constructor
    ·rintro (⟨c, n', h1, h2, h3⟩ | h)
     ·exact ⟨c, n', h1, by rw [h2]; rfl, h3⟩
     ·exact ⟨x, m, HFX.out, by rw [key_same]; simp, h⟩
    ·rintro ⟨c, n', h1, h2, h3⟩
     rw [key_same] at h2
     by_cases hcx : c = x
     ·subst hcx
      rw [HFX.out] at h1
      cases h1
      exact .inr h3
     ·refine .inl ⟨c, n', h1, ?_, h3⟩
      simpa [hcx] using h2
   case measure => rw [hrg2.left_eq, hrg.left_eq]; exact hlt
end Go.Proofs.YtmhldhjpfeageabGreat
