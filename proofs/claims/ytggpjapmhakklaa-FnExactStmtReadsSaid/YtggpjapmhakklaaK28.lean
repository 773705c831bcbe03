/- The texts G9, joined. No statement is proved here. -/
import Derived.Test.YtggpjapmhakklaaK24
import Derived.Test.YtggpjapmhakklaaK27
/- The model's list of reads. No statement is proved here. -/
namespace Go.Proofs.Ytggpjapmhakklaa
open Go.RowKit

/-- Blocks of other things than accesses stand. -/
def Ka (w w' : World) : Prop := ∀ (g : Nat) (cs : Array Value) (T : TypeId) (fz : Nat × Nat), T ≠ 44 → w.heap[g]? = some (.cells cs T fz) → w'.heap[g]? = some (.cells cs T fz)
theorem Ka.refl (w : World) : Ka w w := fun _ _ _ _ _ h => h
theorem Ka.trans {a b c : World} (h : Ka a b) (k : Ka b c) : Ka a c := fun g cs T fz hT hg => k g cs T fz hT (h g cs T fz hT hg)
theorem Ka.of_ext {w w' : World} (h : Ext w w') : Ka w w' := fun _ _ _ _ _ hg => h.blk hg
theorem Ka.of_grown {w w' : World} {row : Option Nat} (hg : w.grownBy w' row) (ht : Tag w row 44) : Ka w w' := fun _ _ _ _ hT h => blk_tag h hg ht (fun e => hT e.symm)
theorem reads_len : ∀ (L : Nat) (e : Ex), ((readsE L e).length : Int) ≤ countE L e
  | 0, _ => by simp [readsE, countE]
  | L + 1, e => by
    have hs : ∀ (l : List Ex), ((l.flatMap (readsE L)).length : Int) ≤ (l.map (countE L)).sum := by
      intro l
      induction l with
      | nil => simp
      | cons a l ih =>
        have := reads_len L a
        simp only [List.flatMap_cons, List.length_append, List.map_cons, List.sum_cons]
        omega
    have := hs e.kids
    simp only [readsE, countE, List.length_append]
    split
    · simp only [List.length_cons, List.length_nil]; omega
    · simp only [List.length_nil]; omega
theorem sum_take_next {f : Ex → Int} : ∀ {l : List Ex} {j : Nat} {x : Ex}, (∀ y ∈ l, 0 ≤ f y) → l[j]? = some x → ((l.take j).map f).sum + f x ≤ (l.map f).sum
  | [], j, x, _, hx => by simp at hx
  | a :: l, 0, x, h, hx => by
    simp at hx; subst hx
    have : ∀ (l : List Ex), (∀ y ∈ l, 0 ≤ f y) → 0 ≤ (l.map f).sum := by
      intro l
      induction l with
      | nil => simp
      | cons b l ih => intro h; have h1 := h b (by simp); have h2 := ih (fun y hy => h y (by simp [hy])); simp only [List.map_cons, List.sum_cons]; omega
    have := this l (fun y hy => h y (by simp [hy]))
    simp only [List.take_zero, List.map_nil, List.sum_nil, List.map_cons, List.sum_cons]; omega
  | a :: l, j + 1, x, h, hx => by
    have := sum_take_next (l := l) (j := j) (x := x) (fun y hy => h y (by simp [hy])) (by simpa using hx)
    simp only [List.take_succ_cons, List.map_cons, List.sum_cons]; omega
theorem flat_len {L : Nat} (l : List Ex) : ((l.flatMap (readsE L)).length : Int) ≤ (l.map (countE L)).sum := by
  induction l with
  | nil => simp
  | cons a l ih =>
    have := reads_len L a
    simp only [List.flatMap_cons, List.length_append, List.map_cons, List.sum_cons]
    omega
theorem flat_take {L : Nat} {l : List Ex} {j : Nat} {x : Ex} (h : l[j]? = some x) : (l.take (j + 1)).flatMap (readsE L) = (l.take j).flatMap (readsE L) ++ readsE L x := by
  rw [take_next h, List.flatMap_append]; simp
theorem four_of_accB {arr : ByteArray} {subs : List Aff} {d : Int} (h : accB arr subs d = true) : FourA 2 subs ∧ (∀ x ∈ subs, affValidB x.1 x.2 = true) ∧ arrB arr = true ∧ 1 ≤ subs.length := by
  simp only [accB, Bool.and_eq_true, List.all_eq_true, decide_eq_true_eq, boundB] at h
  refine ⟨⟨h.2.2.2, fun a ha => ?_⟩, fun x hx => (h.1 x hx).1, h.2.1, h.2.2.1⟩
  obtain ⟨a0, a1, a2, a3, e, -⟩ := valid_four (h.1 a ha).1
  rw [e]; rfl

/-- What the list of reads does with the nodes of a level. -/
def RdOf (dd : Int) (B L : Nat) : Prop := ∀ (e : Ex) (cs : List Value) (w0 w : World) (v : Value) (xs : List Acc), shapeB L e dd = true → ExR w0 cs e → Ext w0 w → w0.heap.size ≤ B → B ≤ w.heap.size → AccsO B w v xs → (xs.length : Int) + countE L e ≤ 1000 →
    Calls Try.prog 46 #[v, .agg cs.toArray] w fun r w' => (∃ v', r = .returned v' ∧ AccsO B w' v' (xs ++ readsE L e)) ∧ Ext w0 w' ∧ Ka w w' ∧ w.heap.size ≤ w'.heap.size
set_option linter.unusedVariables false in
set_option maxRecDepth 100000 in
set_option maxHeartbeats 1000000 in
theorem l3Reads_read (dd : Int) (B L : Nat) (e : Ex) (cs : List Value) (w0 w : World) (v : Value) (xs : List Acc) (hk3 : e.kind = 3) (hsh : shapeB (L + 1) e dd = true) (he : ExR w0 cs e) (hE : Ext w0 w) (hB0 : w0.heap.size ≤ B) (hB1 : B ≤ w.heap.size) (hv : AccsO B w v xs) (hlen : (xs.length : Int) + countE (L + 1) e ≤ 1000) :
    Calls Try.prog 46 #[v, .agg cs.toArray] w fun r w' => (∃ v', r = .returned v' ∧ AccsO B w' v' (xs ++ readsE (L + 1) e)) ∧ Ext w0 w' ∧ Ka w w' ∧ w.heap.size ≤ w'.heap.size := by
  obtain ⟨kind, num, ⟨ixs, k⟩, arr, subs, kids⟩ := e
  obtain ⟨u, s, kv, rfl, hu, ha, hs, hkv⟩ := he.parts
  simp only [Ex.kind, Ex.num, Ex.ix, Ex.arr, Ex.subs, Ex.kids] at *
  obtain ⟨pu, cu, rfl, hmu, -⟩ := id hu
  obtain ⟨ps, cs2, rfl, hms⟩ := hs.form
  obtain ⟨pk, ck, rfl, hmk⟩ := hkv.form
  obtain ⟨po, co, rfl⟩ := PairsOwn.slice hv
  obtain ⟨i2, hi2, hx0, hx1, hx2⟩ := info_parts infoAcc
  have hkids := shape_kids hsh
  simp only [Ex.kids] at hkids
  have hcE : countE (L + 1) (.mk kind num (ixs, k) arr subs kids) = 1 + (kids.map (countE L)).sum := by simp [countE, Ex.kids]
  rw [hcE] at hlen
  have HSH := Lib.hid hsh; have HE := Lib.hid hE; have HV := Lib.hid hv; have HS := Lib.hid hs; have HK := Lib.hid hkv; have HKI := Lib.hid hkids; have HLEN := Lib.hid hlen
  clear hsh hE hv hs hkv hu he hkids hlen hcE
  subst hk3
  have hb3 : ((3 : Int) == 3) = true := rfl
  have hsh := HSH.out
  rw [shape_mk, show kidsN 3 = 0 from rfl, kids0] at hsh
  simp only [Bool.and_eq_true, decide_eq_true_eq] at hsh
  obtain ⟨hk0, hown, -⟩ := hsh
  obtain rfl := List.eq_nil_of_length_eq_zero hk0
  have hacc : accB arr subs dd = true := by
    have h : ownF 3 num (ixs, k) arr subs dd = (decide (num = 0) && (noneB (ixs, k) && accB arr subs dd)) := rfl
    rw [h] at hown
    simp only [Bool.and_eq_true] at hown
    exact hown.2.2
  obtain ⟨hf2, -, -, -⟩ := four_of_accB hacc
  have HF2 := Lib.hid (hf2.mono (M := 1000) (by omega))
  have HRE : Hid (readsE (L + 1) (.mk 3 num (ixs, k) arr subs []) = [(arr, subs)]) := Lib.hid (by simp [readsE, Ex.kind, Ex.kids, Ex.arr, Ex.subs])
  have hxl : xs.length ≤ 1000 := by have := HLEN.out; simp at this; omega
  clear hown hacc hf2 HKI HLEN hk0 HK
  rw [HRE.out]
  go_enter Try.func46, Try.ntmps46
  go_wp2_with (fail)
  obtain ⟨W1, hW1⟩ : ∃ W1, w.alloc (.cells #[.int .i64 3, .int .i64 num, .slice pu ixs.length cu, .int .i64 k, .string arr, .slice ps subs.length cs2, .slice pk 0 ck] 48) = W1 := ⟨_, rfl⟩
  have E1 : Hid (Ext w W1) := Lib.hid (by rw [← hW1]; exact (Ext.refl w).alloc _)
  have B1 := Lib.hid (show W1.heap[w.heap.size]? = some (.cells #[.int .i64 3, .int .i64 num, .slice pu ixs.length cu, .int .i64 k, .string arr, .slice ps subs.length cs2, .slice pk 0 ck] 48 (0, 0)) by rw [← hW1]; exact blk_at rfl)
  rw [hW1]
  clear hW1
  refine (l3CopyAccess_any arr _ subs _ (HS.out.ext (HE.out.trans E1.out)) HF2.out).mono ?_
  rintro r W2 ⟨⟨q, d, rfl, hcp⟩, hE2⟩
  have hz1 := E1.out.size_le; have hz2 := hE2.size_le
  have E2 := Lib.hid (E1.out.trans hE2); have B2 := Lib.hid (hE2.blk B1.out); have HCP := Lib.hid (hcp.weak (B' := B) (by omega))
  obtain ⟨n, hn⟩ : ∃ n, xs.length = n := ⟨_, rfl⟩
  have HN := Lib.hid hn
  have hva := AccsO.ext HV.out (E2.out.alloc (.cells #[.string arr, .slice q subs.length d] 44))
  obtain ⟨vs, ho, he⟩ := hva
  rw [hn] at ho hxl ⊢
  have hvl := ho.1
  have HHE := Lib.hid he
  obtain ⟨-, -, -, -, -, -, z6⟩ := blk7 B2.out
  clear hcp hE2 hn he
  go_wp2_with (at_builtin; refine wpList_append_own_at _ rfl (.tmp 9) (.tmp 13) 40 rfl B 44 i2 (.agg #[.string ⟨#[]⟩, .slice none 0 0]) 2 40 underSliceAcc hi2 hx0 hx1 hx2 rfl (by decide) (.slice po n co) n vs rfl ho ⟨W2.heap.size, 0, none⟩ 1 1 [.string arr, .slice q subs.length d] rfl rfl ?c1 ?c2 ?c3 ?c4 ?c5 ?_)
  case c1 => exact pair_cells rfl
  case c2 => intro u hu; simp at hu; rcases hu with rfl | rfl <;> rfl
  case c3 => unfold maxLen; omega
  case c4 => omega
  case c5 => simp; omega
  intro v' w4 hown' hgrow _ _
  have htag := own_tag ho
  have HRS : Hid (AccsO B w4 v' (xs ++ [(arr, subs)])) := Lib.hid (PairsOwn.push (R := AccO) (fun h a b => AccO.grow h a b) HN.out HHE.out hvl hown' hgrow htag ⟨rfl, ha, AffsOwn.ext HCP.out ((Ext.refl W2).alloc _)⟩)
  have hob : ∀ b, (Value.slice po n co).ownBlock = some b → B ≤ b := fun b hb => (ho.lt b hb).1
  have HE4 : Hid (Ext w0 w4) := Lib.hid (Ext.grown ((HE.out.trans E2.out).alloc _) hgrow (fun b hb => Nat.le_trans hB0 (hob b hb)))
  have HK4 : Hid (Ka w w4) := Lib.hid ((Ka.of_ext (E2.out.alloc _)).trans (Ka.of_grown hgrow htag))
  have HZ4 : Hid (w.heap.size ≤ w4.heap.size) := Lib.hid (by have := hgrow.size; simp at this; omega)
  have B4 := blk_tag ((Ext.refl W2).alloc (.cells #[.string arr, .slice q subs.length d] 44) |>.blk B2.out) hgrow htag (by decide)
  obtain ⟨-, -, -, -, -, -, z6'⟩ := blk7 B4
  clear hown' hgrow htag ho hob hvl z6 B4
  go_wp2
  refine wp_loop_rounds 2 ?_
  rw [rounds_succ]; go_wp2
  go_ret
  exact ⟨⟨_, rfl, HRS.out⟩, HE4.out, HK4.out, HZ4.out⟩

set_option linter.unusedVariables false in
set_option maxRecDepth 100000 in
set_option maxHeartbeats 1000000 in
theorem l3Reads_kids (dd : Int) (B L : Nat) (IH : RdOf dd B L) (e : Ex) (cs : List Value) (w0 w : World) (v : Value) (xs : List Acc) (hk3 : e.kind ≠ 3) (hsh : shapeB (L + 1) e dd = true) (he : ExR w0 cs e) (hE : Ext w0 w) (hB0 : w0.heap.size ≤ B) (hB1 : B ≤ w.heap.size) (hv : AccsO B w v xs) (hlen : (xs.length : Int) + countE (L + 1) e ≤ 1000) :
    Calls Try.prog 46 #[v, .agg cs.toArray] w fun r w' => (∃ v', r = .returned v' ∧ AccsO B w' v' (xs ++ readsE (L + 1) e)) ∧ Ext w0 w' ∧ Ka w w' ∧ w.heap.size ≤ w'.heap.size := by
  obtain ⟨kind, num, ⟨ixs, k⟩, arr, subs, kids⟩ := e
  obtain ⟨u, s, kv, rfl, hu, ha, hs, hkv⟩ := he.parts
  simp only [Ex.kind, Ex.num, Ex.ix, Ex.arr, Ex.subs, Ex.kids] at *
  obtain ⟨pu, cu, rfl, hmu, -⟩ := id hu
  obtain ⟨ps, cs2, rfl, hms⟩ := hs.form
  obtain ⟨pk, ck, rfl, hmk⟩ := hkv.form
  obtain ⟨po, co, rfl⟩ := PairsOwn.slice hv
  obtain ⟨i2, hi2, hx0, hx1, hx2⟩ := info_parts infoAcc
  have hkids := shape_kids hsh
  simp only [Ex.kids] at hkids
  have hcE : countE (L + 1) (.mk kind num (ixs, k) arr subs kids) = 1 + (kids.map (countE L)).sum := by simp [countE, Ex.kids]
  rw [hcE] at hlen
  have HSH := Lib.hid hsh; have HE := Lib.hid hE; have HV := Lib.hid hv; have HS := Lib.hid hs; have HK := Lib.hid hkv; have HKI := Lib.hid hkids; have HLEN := Lib.hid hlen
  clear hsh hE hv hs hkv hu he hkids hlen hcE
  have hb3 : (kind == 3) = false := by simpa using hk3
  have HRE : Hid (readsE (L + 1) (.mk kind num (ixs, k) arr subs kids) = kids.flatMap (readsE L)) := Lib.hid (by simp [readsE, Ex.kind, Ex.kids, hk3])
  clear hk3
  rw [HRE.out]
  go_enter Try.func46, Try.ntmps46
  go_wp2
  obtain ⟨W1, hW1⟩ : ∃ W1, w.alloc (.cells #[.int .i64 kind, .int .i64 num, .slice pu ixs.length cu, .int .i64 k, .string arr, .slice ps subs.length cs2, .slice pk kids.length ck] 48) = W1 := ⟨_, rfl⟩
  have E1 : Hid (Ext w W1) := Lib.hid (by rw [← hW1]; exact (Ext.refl w).alloc _)
  have B1 := Lib.hid (show W1.heap[w.heap.size]? = some (.cells #[.int .i64 kind, .int .i64 num, .slice pu ixs.length cu, .int .i64 k, .string arr, .slice ps subs.length cs2, .slice pk kids.length ck] 48 (0, 0)) by rw [← hW1]; exact blk_at rfl)
  rw [hW1]
  clear hW1
  obtain ⟨n, hn⟩ : ∃ n, kids.length = n := ⟨_, rfl⟩
  have HN := Lib.hid hn
  rw [hn] at hmk B1 HK ⊢
  clear hn
  have hz1 := E1.out.size_le
  go_loopw [0, 5] (fun ov i wr => ∃ (j : Nat) (p9 : Option Addr) (n9 c9 : Nat), j ≤ n ∧ i = .int .i64 j ∧ ov = .slice p9 n9 c9 ∧ AccsO B wr (.slice p9 n9 c9) (xs ++ (kids.take j).flatMap (readsE L)) ∧ Ext w0 wr ∧ Ka W1 wr ∧ W1.heap.size ≤ wr.heap.size) (fun _ i _ => n - (intOf i).toNat)
  case atStart => exact ⟨0, _, _, _, by omega, rfl, rfl, by simpa using AccsO.ext HV.out E1.out, HE.out.trans E1.out, Ka.refl _, Nat.le_refl _⟩
  case round =>
    obtain ⟨j, p9, n9, c9, hj, rfl, rfl, hva, hEr, hKr, hzr⟩ := hrel
    have HVA := Lib.hid hva; have HER := Lib.hid hEr; have HKR := Lib.hid hKr
    have BR := Lib.hid (hKr _ _ _ _ (by decide) B1.out)
    obtain ⟨y0, y1, y2, y3, y4, y5, y6⟩ := blk7 BR.out
    clear hva hEr hKr
    by_cases hjn : j < n
    · obtain ⟨x, hx⟩ := get_some (xs := kids) (k := j) (by rw [HN.out]; exact hjn)
      obtain ⟨p', c', us, hv', hl', hc', hk'⟩ := HK.out
      simp only [Value.slice.injEq] at hv'
      obtain ⟨rfl, -, rfl⟩ := hv'
      obtain ⟨b, off, rfl, hb, hcell⟩ := hc' j x hx
      have hxr := hk' j x hx
      obtain ⟨u2, s2, v2, hcs, -, -, -, -⟩ := hxr.parts
      rw [hcs] at hcell hxr
      have c0 := HER.out.keep (hcell 0 _ rfl); have c1 := HER.out.keep (hcell 1 _ rfl); have c2 := HER.out.keep (hcell 2 _ rfl); have c3 := HER.out.keep (hcell 3 _ rfl); have c4 := HER.out.keep (hcell 4 _ rfl); have c5 := HER.out.keep (hcell 5 _ rfl); have c6 := HER.out.keep (hcell 6 _ rfl)
      rw [Nat.add_zero] at c0
      have HXS := Lib.hid (HKI.out x (List.mem_of_getElem? hx)); have HXR := Lib.hid hxr
      have HBD : Hid (((xs ++ (kids.take j).flatMap (readsE L)).length : Int) + countE L x ≤ 1000) := Lib.hid (by
        have h1 := sum_take_next (f := countE L) (fun y hy => (countE_bd L y (HKI.out y hy)).1) hx
        have h2 := flat_len (L := L) (kids.take j)
        have h3 := HLEN.out
        rw [List.length_append]
        omega)
      have HFT := Lib.hid (flat_take (L := L) hx)
      clear hx hc' hk' hcell hxr hcs hl'
      go_wp2_with (fail)
      refine (IH x _ w0 wr _ _ HXS.out HXR.out HER.out hB0 (by omega) HVA.out HBD.out).mono ?_
      rintro r w4 ⟨⟨v', rfl, hv4⟩, hE4, hK4, hz4⟩
      obtain ⟨p8, n8, c8, rfl⟩ : ∃ p n c, v' = .slice p n c := by obtain ⟨p, c, h⟩ := PairsOwn.slice hv4; exact ⟨p, _, c, h⟩
      have HV4 : Hid (AccsO B w4 (.slice p8 n8 c8) (xs ++ (kids.take (j + 1)).flatMap (readsE L))) := Lib.hid (by rw [HFT.out, ← List.append_assoc]; exact hv4)
      have HE4 := Lib.hid hE4; have HK4 := Lib.hid (HKR.out.trans hK4)
      clear hv4 hE4 hK4 c0 c1 c2 c3 c4 c5 c6 y0 y1 y2 y3 y4 y5 y6
      go_wp2
      go_roundw
      case rel => exact ⟨j + 1, _, _, _, by omega, by go_num, rfl, HV4.out, HE4.out, HK4.out, by omega⟩
      case measure => simp [intOf]; omega
    · obtain rfl : j = n := by omega
      have HRS : Hid (AccsO B wr (.slice p9 n9 c9) (xs ++ kids.flatMap (readsE L))) := Lib.hid (by have h := HVA.out; rw [List.take_of_length_le (by rw [HN.out]; omega)] at h; exact h)
      have HKF := Lib.hid ((Ka.of_ext E1.out).trans HKR.out)
      go_wp2
      go_ret
      exact ⟨⟨_, rfl, HRS.out⟩, HER.out, HKF.out, by omega⟩

theorem l3Reads_any (dd : Int) (B : Nat) : ∀ (L : Nat), RdOf dd B L
  | 0 => fun e cs w0 w v xs hsh he hE hB0 hB1 hv hlen => by simp [shapeB] at hsh
  | L + 1 => fun e cs w0 w v xs hsh he hE hB0 hB1 hv hlen => by
    by_cases hk3 : e.kind = 3
    · exact l3Reads_read dd B L e cs w0 w v xs hk3 hsh he hE hB0 hB1 hv hlen
    · exact l3Reads_kids dd B L (l3Reads_any dd B L) e cs w0 w v xs hk3 hsh he hE hB0 hB1 hv hlen
end Go.Proofs.Ytggpjapmhakklaa
