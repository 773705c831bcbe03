/- The texts G60, joined. No statement is proved here. -/
import Derived.Test.YtmhldhjpfeageabGreatK47
import Derived.Test.YtmhldhjpfeageabGreatK34
/- The model's LiveInstances. No statement is proved here. -/
namespace Go.Proofs.YtmhldhjpfeageabGreat
open Go.RowKit Go.Maps
def lastTo (us : List Us) (c : Int) (i k : Nat) : Bool := ((us.take k).drop (i + 1)).all (fun y => y.2 != c)
def lastB (us : List Us) (i : Nat) : Bool := match us[i]? with
 | none => false
 | some u => lastTo us u.2 i us.length
def rdS (us : List Us) (i : Nat) (rs : List Int) (k : Nat) : List Int := ((rs.take k).map (fun c => srcI (lastW us i c))).filter (fun s => decide (0 ≤ s))
def lvStep1 (us : List Us) (i : Nat) (S : List Int) : List Int := if (i : Int) ∈ S ∨ lastB us i = true then S ++ [(i : Int)] ++ (match us[i]? with | none => [] | some u => rdS us i u.1 u.1.length) else S
def liveTo (us : List Us) (M : Nat) : Nat → List Int
 | 0 => []
 | k + 1 => lvStep1 us (M - 1 - k) (liveTo us M k)
def liB (ars : List Arr) (ps : List Pt) : List Int := if progB ars ps = true then fl (insM ps).length (liveTo (usesM ars ps) (insM ps).length (insM ps).length) else []
theorem lastTo_start (us : List Us) (c : Int) (i : Nat) : lastTo us c i (i + 1) = true := by
 unfold lastTo
 rw [List.drop_eq_nil_of_le (by rw [List.length_take]; omega)]
 rfl
theorem lastTo_next {us : List Us} {c : Int} {i k : Nat} {y : Us} (h : us[k]? = some y) (hk : i + 1 ≤ k) : lastTo us c i (k + 1) = (lastTo us c i k && (y.2 != c)) := by
 unfold lastTo
 have hl := (List.getElem?_eq_some_iff.1 h).1
 rw [take_next h, List.drop_append_of_le_length (by rw [List.length_take]; omega), List.all_append]
 simp
theorem rdS_next {us : List Us} {i k : Nat} {rs : List Int} {c : Int} (h : rs[k]? = some c) : rdS us i rs (k + 1) = rdS us i rs k ++ (if 0 ≤ srcI (lastW us i c) then [srcI (lastW us i c)] else []) := by
 unfold rdS
 rw [take_next h, List.map_append, List.filter_append]
 by_cases e : 0 ≤ srcI (lastW us i c) <;> simp [e]
theorem flg_no {n m : Nat} {s : List Int} (h : (m : Int) ∉ s) : (flg n s).set m false = flg n s := by
 refine List.ext_getElem? (fun j => ?_)
 rw [List.getElem?_set]
 split
 ·rename_i e
  subst e
  split
  ·rename_i hl
   rw [flg_get s (by simpa [flg] using hl), decide_eq_false h]
  ·rename_i hl
   rw [List.getElem?_eq_none (by omega)]
 ·rfl
theorem lastW_ltI {us : List Us} : ∀ {k : Nat} {c : Int} {n : Nat}, lastW us k c = some n → n < k := by
 intro k
 induction k with
 | zero => intro c n h; simp [lastW] at h
 | succ k ih =>
  intro c n h
  unfold lastW at h
  cases hu : us[k]? with
  | none => rw [hu] at h; have := ih h; omega
  | some u =>
   rw [hu] at h
   dsimp only at h
   split at h
   ·cases h; omega
   ·have := ih h; omega
theorem srcI_bd (us : List Us) (k : Nat) (c : Int) : -1 ≤ srcI (lastW us k c) ∧ srcI (lastW us k c) < (k : Int) := by
 cases h : lastW us k c with
 | none => simp [srcI]; omega
 | some n => have := lastW_ltI h; simp [srcI]; omega
theorem lvStep1_no {us : List Us} {i : Nat} {S : List Int} (h1 : (i : Int) ∉ S) (h2 : lastB us i = false) : lvStep1 us i S = S := by unfold lvStep1; rw [if_neg (by rintro (h | h); exact h1 h; rw [h2] at h; cases h)]
theorem lvStep1_yes {us : List Us} {i : Nat} {S : List Int} {u : Us} (hu : us[i]? = some u) (h : (i : Int) ∈ S ∨ lastB us i = true) : lvStep1 us i S = S ++ [(i : Int)] ++ rdS us i u.1 u.1.length := by unfold lvStep1; rw [if_pos h, hu]
set_option linter.unusedVariables false in
set_option linter.unusedSimpArgs false in
set_option maxRecDepth 100000 in
set_option maxHeartbeats 4000000 in
theorem specLiveInstances_any (v : Value) (ars : List Arr) (ps : List Pt) (w : World) (hp : PrR w v ars ps) :
  Calls Tryz.prog 40 #[v] w fun e w' => (∃ v', e = .returned v' ∧ IntsOwn w.heap.size w' v' (liB ars ps)) ∧ Ext w w' := by
 obtain ⟨qa, ca, qp, cp, rfl, hla, hlp, ha, hps⟩ := hp.parts
 obtain ⟨na, hna⟩ : ∃ n, ars.length = n := ⟨_, rfl⟩
 obtain ⟨np, hnp⟩ : ∃ n, ps.length = n := ⟨_, rfl⟩
 rw [hna, hnp] at hp ⊢
 obtain ⟨pb, hpb⟩ : ∃ a, progB ars ps = a := ⟨_, rfl⟩
 have HP := Lib.hid hp; have HPB := Lib.hid hpb
 clear hp ha hps hna hnp hpb
 go_enter Tryz.func40, Tryz.ntmps40
 go_wp2_with (fail)
 obtain ⟨W1, hW1⟩ : ∃ W1, w.alloc (.cells #[.slice qa na ca, .slice qp np cp] 32) = W1 := ⟨_, rfl⟩
 have E1 : Hid (Ext w W1) := Lib.hid (by rw [← hW1]; exact (Ext.refl w).alloc _)
 have B1 := Lib.hid (show W1.heap[w.heap.size]? = some (.cells #[.slice qa na ca, .slice qp np cp] 32 (0, 0)) by rw [← hW1]; exact blk_at rfl)
 have HSW1 : Hid (W1.heap.size = w.heap.size + 1) := Lib.hid (by rw [← hW1]; simp)
 try rw [hW1]
 clear hW1
 refine (specProgramValid_any _ ars ps _ (HP.out.ext E1.out)).mono ?_
 rw [HPB.out]
 rintro e w2 ⟨rfl, hE2⟩
 have E2 := Lib.hid hE2; have B2 := Lib.hid (hE2.blk B1.out)
 clear hE2
 cases pb with
 | false =>
  have HR : Hid (liB ars ps = []) := Lib.hid (by unfold liB; rw [HPB.out]; rfl)
  go_wp2
  go_ret
  refine ⟨⟨_, rfl, ?_⟩, (E1.out.trans E2.out).alloc _⟩
  rw [HR.out]
  exact World.ownsRow_made w2 #[] 0 (by have := (E1.out.trans E2.out).size_le; omega) (Nat.zero_le _) rfl
 | true =>
  obtain ⟨y0, y1, -, -⟩ := blk2 B2.out
  have hM120 := insM_120 HPB.out
  obtain ⟨M, hM⟩ : ∃ M, (insM ps).length = M := ⟨_, rfl⟩
  obtain ⟨us, hus⟩ : ∃ us, usesM ars ps = us := ⟨_, rfl⟩
  have HR : Hid (liB ars ps = fl M (liveTo us M M)) := Lib.hid (by unfold liB; rw [if_pos HPB.out, hM, hus])
  have HUM : Hid (us.length = M) := Lib.hid (by rw [← hus, usesM_len, hM])
  have HRL : Hid (∀ u ∈ us, u.1.length ≤ 1000) := Lib.hid (by rw [← hus, usesM_ev]; exact ev_reads HPB.out)
  have HM := Lib.hid hM; have HUS := Lib.hid hus
  rw [hM] at hM120
  clear hM hus
  go_wp2_with (fail)
  refine (l6Uses_any _ ars ps _ (HP.out.ext (E1.out.trans E2.out)) HPB.out).mono ?_
  rintro e w3 ⟨⟨q, c, rfl, hu⟩, hE3⟩
  rw [HM.out, HUS.out] at hu
  rw [HM.out]
  have HU := Lib.hid hu; have E3 := Lib.hid (E2.out.trans hE3)
  have hmk := make_flags M (by omega)
  have hMN : decide ((M : Int) < 0) = false := by simp
  clear hu hE3 y0 y1
  obtain ⟨L, hL⟩ : ∃ L, w3.heap.size = L := ⟨_, rfl⟩
  obtain ⟨W4, hW4⟩ : ∃ W4, w3.alloc (.cells ((flg M []).map Value.bool).toArray 4) = W4 := ⟨_, rfl⟩
  have HW4 := Lib.hid hW4; have HL := Lib.hid hL
  have F4 : Hid (FlgAt W4 L (flg M [])) := Lib.hid (by rw [← hW4]; exact blk_at hL.symm)
  have X4 : Hid (Ext w3 W4) := Lib.hid (by rw [← hW4]; exact (Ext.refl w3).alloc _)
  have U4 := Lib.hid (HU.out.ext X4.out)
  clear hW4 hL
  go_wp2
  rw [HW4.out]
  try rw [HL.out]
  clear hmk hMN
  go_loopw [5] (fun iv wr => ∃ x : Int, -1 ≤ x ∧ x < (M : Int) ∧ iv = .int .i64 x ∧ FlgAt wr L (flg M (liveTo us M (M - (x + 1).toNat))) ∧ Ext w3 wr) (fun iv _ => (intOf iv + 1).toNat)
  case atStart => exact ⟨(M : Int) - 1, by omega, by omega, by go_num, by rw [show M - ((M : Int) - 1 + 1).toNat = 0 by omega]; exact F4.out, X4.out⟩
  case round =>
   obtain ⟨x, hx1, hxM, rfl, hf, hE⟩ := hrel
   have HF := Lib.hid hf; have HE := Lib.hid hE
   clear F4 hf hE
   by_cases h0 : 0 ≤ x
   ·obtain ⟨i, rfl⟩ : ∃ i : Nat, x = i := ⟨x.toNat, by omega⟩
    obtain ⟨u, hu⟩ := get_some (xs := us) (k := i) (by rw [HUM.out]; omega)
    have hR1000 := HRL.out u (List.mem_of_getElem? hu)
    obtain ⟨rs, cv⟩ := u
    dsimp only at hR1000
    obtain ⟨R, hR⟩ : ∃ R, rs.length = R := ⟨_, rfl⟩
    rw [hR] at hR1000
    obtain ⟨S, hS⟩ : ∃ S, liveTo us M (M - ((i : Int) + 1).toNat) = S := ⟨_, rfl⟩
    rw [hS] at HF
    have HSN : Hid (liveTo us M (M - ((i : Int) - 1 + 1).toNat) = lvStep1 us i S) := Lib.hid (by
     rw [show M - ((i : Int) - 1 + 1).toNat = (M - ((i : Int) + 1).toNat) + 1 by omega]
     show lvStep1 us (M - 1 - (M - ((i : Int) + 1).toNat)) (liveTo us M (M - ((i : Int) + 1).toNat)) = _
     rw [hS, show M - 1 - (M - ((i : Int) + 1).toNat) = i by omega])
    have HLB : Hid (lastTo us cv i M = lastB us i) := Lib.hid (by unfold lastB; rw [hu, HUM.out])
    have HUI := Lib.hid hu; have HRR := Lib.hid hR
    have hiM : i < M := by omega
    have hiI : (i : Int) < (M : Int) := by omega
    have hb0 : decide ((0 : Int) ≤ (i : Int)) = true := by simp
    clear hu hR hS h0
    go_wp2
    clear hb0
    go_loopw [6, 7] (fun bv kv wr => ∃ k : Nat, i + 1 ≤ k ∧ k ≤ M ∧ kv = .int .i64 k ∧ bv = .bool (lastTo us cv i k) ∧ FlgAt wr L (flg M S) ∧ Ext w3 wr) (fun _ kv _ => M - (intOf kv).toNat)
    case atStart => exact ⟨i + 1, by omega, by omega, by go_num, by rw [lastTo_start], HF.out, HE.out⟩
    case round =>
     obtain ⟨k, hik, hk, rfl, rfl, hf, hE⟩ := hrel
     have HF2 := Lib.hid hf; have HE2 := Lib.hid hE
     clear HF HE hf hE
     by_cases hlt : k < M
     ·obtain ⟨y, hy⟩ := get_some (xs := us) (k := k) (by rw [HUM.out]; exact hlt)
      have HU' := Lib.hid (HU.out.ext HE2.out)
      obtain ⟨o, r, rk, rfl, hol, -, x1, -⟩ := HU'.out.elem HUI.out
      obtain ⟨o', r', rk', ho', -, -, z1, -⟩ := HU'.out.elem hy
      obtain rfl : o = o' := by cases ho'; rfl
      obtain ⟨bl, hbl⟩ : ∃ b, lastTo us cv i k = b := ⟨_, rfl⟩
      have HNX : Hid (lastTo us cv i (k + 1) = (bl && (y.2 != cv))) := Lib.hid (by rw [lastTo_next hy hik, hbl])
      have HFD : Hid (FlgAt wr.drew L (flg M S)) := Lib.hid ((Ext.refl wr).drew.blk HF2.out)
      have HED := Lib.hid (HE2.out.trans (Ext.refl wr).drew)
      have hkI : (k : Int) < (M : Int) := by omega
      dsimp only at x1
      rw [hbl]
      clear hy ho' hbl
      cases bl with
      | true =>
       go_wp2_with (fail)
       refine wp_region_held_drew (S := (fun W => W.cell? ⟨o, k * 2 + 1, none⟩ = some (.int .i64 y.2) ∧ W.cell? ⟨o, i * 2 + 1, none⟩ = some (.int .i64 cv))) (by kernel_rfl) ⟨(Ext.refl wr).drew.keep z1, (Ext.refl wr).drew.keep x1⟩ (fun hHeld => ?_)
       refine wpAnyH_takeD (some 34) (i := 0) (v := ?vya0) rfl (by kernel_rfl) (by kernel_rfl) (by kernel_rfl) (by kernel_rfl) (fun _ _ _ h => h) (Or.inl ⟨by rfl, ?hyya0⟩) (by assumption) ?rya0
       case hyya0 => intro w hSw; (try dsimp only at hSw); go_simp; first | done | with_reducible rfl
       case' rya0 => try simp only [Act.put, List.setIfInBounds_toArray, List.set_cons_zero, List.set_cons_succ]
       refine wpAnyH_takeD (some 35) (i := 1) (v := ?vya1) rfl (by kernel_rfl) (by kernel_rfl) (by kernel_rfl) (by kernel_rfl) (fun _ _ _ h => h) (Or.inl ⟨by rfl, ?hyya1⟩) (by assumption) ?rya1
       case hyya1 => intro w hSw; (try dsimp only at hSw); go_simp; first | done | with_reducible rfl
       case' rya1 => try simp only [Act.put, List.setIfInBounds_toArray, List.set_cons_zero, List.set_cons_succ]
       refine wpAnyH_takeD (some 36) (i := 2) (v := ?vya2) rfl (by kernel_rfl) (by kernel_rfl) (by kernel_rfl) (by kernel_rfl) (fun _ _ _ h => h) (Or.inl ⟨by rfl, ?hyya2⟩) (by assumption) ?rya2
       case hyya2 => intro w hSw; (try dsimp only at hSw); go_simp; first | done | with_reducible rfl
       case' rya2 => try simp only [Act.put, List.setIfInBounds_toArray, List.set_cons_zero, List.set_cons_succ]
       refine wpAnyH_takeD (some 37) (i := 3) (v := ?vya3) rfl (by kernel_rfl) (by kernel_rfl) (by kernel_rfl) (by kernel_rfl) (fun _ _ _ h => h) (Or.inl ⟨by rfl, ?hyya3⟩) (by assumption) ?rya3
       case hyya3 => intro w hSw; (try dsimp only at hSw); go_simp; first | done | with_reducible rfl
       case' rya3 => try simp only [Act.put, List.setIfInBounds_toArray, List.set_cons_zero, List.set_cons_succ]
       refine wpAnyH_takeD (some 38) (i := 4) (v := ?vya4) rfl (by kernel_rfl) (by kernel_rfl) (by kernel_rfl) (by kernel_rfl) (fun _ _ _ h => h) (Or.inl ⟨by rfl, ?hyya4⟩) (by assumption) ?rya4
       case hyya4 => intro w hSw; (try dsimp only at hSw); go_simp; first | done | with_reducible rfl
       case' rya4 => try simp only [Act.put, List.setIfInBounds_toArray, List.set_cons_zero, List.set_cons_succ]
       refine wpAnyH_takeD (some 39) (i := 5) (v := ?vya5) rfl (by kernel_rfl) (by kernel_rfl) (by kernel_rfl) (by kernel_rfl) (fun _ _ _ h => h) (Or.inl ⟨by rfl, ?hyya5⟩) (by assumption) ?rya5
       case hyya5 => intro w hSw; (try dsimp only at hSw); go_simp; first | done | with_reducible rfl
       case' rya5 => try simp only [Act.put, List.setIfInBounds_toArray, List.set_cons_zero, List.set_cons_succ]
       refine wpAnyH_takeD (some 40) (i := 6) (v := ?vya6) rfl (by kernel_rfl) (by kernel_rfl) (by kernel_rfl) (by kernel_rfl) (fun _ _ _ h => h) (Or.inl ⟨by rfl, ?hyya6⟩) (by assumption) ?rya6
       case hyya6 => intro w hSw; (try dsimp only at hSw); go_simp; first | done | with_reducible rfl
       case' rya6 => try simp only [Act.put, List.setIfInBounds_toArray, List.set_cons_zero, List.set_cons_succ]
       refine wpAnyH_takeD (some 41) (i := 7) (v := ?vya7) rfl (by kernel_rfl) (by kernel_rfl) (by kernel_rfl) (by kernel_rfl) (fun _ _ _ h => h) (Or.inl ⟨by rfl, ?hyya7⟩) (by assumption) ?rya7
       case hyya7 => intro w hSw; (try dsimp only at hSw); go_simp; first | done | with_reducible rfl
       case' rya7 => try simp only [Act.put, List.setIfInBounds_toArray, List.set_cons_zero, List.set_cons_succ]
       refine wpAnyH_takeD (some 42) (i := 8) (v := ?vya8) rfl (by kernel_rfl) (by kernel_rfl) (by kernel_rfl) (by kernel_rfl) (fun _ _ _ h => h) (Or.inl ⟨by rfl, ?hyya8⟩) (by assumption) ?rya8
       case hyya8 => intro w hSw; (try dsimp only at hSw); go_simp; first | done | with_reducible rfl
       case' rya8 => try simp only [Act.put, List.setIfInBounds_toArray, List.set_cons_zero, List.set_cons_succ]
       refine wpAnyH_takeD (some 43) (i := 9) (v := ?vya9) rfl (by kernel_rfl) (by kernel_rfl) (by kernel_rfl) (by kernel_rfl) (fun _ _ _ h => h) (Or.inl ⟨by rfl, ?hyya9⟩) (by assumption) ?rya9
       case hyya9 => intro w hSw; (try dsimp only at hSw); go_simp; first | done | with_reducible rfl
       case' rya9 => try simp only [Act.put, List.setIfInBounds_toArray, List.set_cons_zero, List.set_cons_succ]
       refine wpAnyH_takeD (some 44) (i := 10) (v := ?vya10) rfl (by kernel_rfl) (by kernel_rfl) (by kernel_rfl) (by kernel_rfl) (fun _ _ _ h => h) (Or.inl ⟨by rfl, ?hyya10⟩) (by assumption) ?rya10
       case hyya10 => intro w hSw; (try dsimp only at hSw); go_simp; first | done | with_reducible rfl
       case' rya10 => try simp only [Act.put, List.setIfInBounds_toArray, List.set_cons_zero, List.set_cons_succ]
       refine wpAnyH_takeD (some 45) (i := 11) (v := ?vya11) rfl (by kernel_rfl) (by kernel_rfl) (by kernel_rfl) (by kernel_rfl) (fun _ _ _ h => h) (Or.inl ⟨by rfl, ?hyya11⟩) (by assumption) ?rya11
       case hyya11 => intro w hSw; (try dsimp only at hSw); go_simp; first | done | with_reducible rfl
       case' rya11 => try simp only [Act.put, List.setIfInBounds_toArray, List.set_cons_zero, List.set_cons_succ]
       refine wpAnyH_takeD (some 46) (i := 12) (v := ?vya12) rfl (by kernel_rfl) (by kernel_rfl) (by kernel_rfl) (by kernel_rfl) (fun _ _ _ h => h) (Or.inl ⟨by rfl, ?hyya12⟩) (by assumption) ?rya12
       case hyya12 => intro w hSw; (try dsimp only at hSw); go_simp; first | done | with_reducible rfl
       case' rya12 => try simp only [Act.put, List.setIfInBounds_toArray, List.set_cons_zero, List.set_cons_succ]
       refine wpAnyH_takeD (some 47) (i := 13) (v := ?vya13) rfl (by kernel_rfl) (by kernel_rfl) (by kernel_rfl) (by kernel_rfl) (fun _ _ _ h => h) (Or.inl ⟨by rfl, ?hyya13⟩) (by assumption) ?rya13
       case hyya13 => intro w hSw; (try dsimp only at hSw); go_simp; first | done | with_reducible rfl
       case' rya13 => try simp only [Act.put, List.setIfInBounds_toArray, List.set_cons_zero, List.set_cons_succ]
       refine wpAnyH_takeD (some 6) (i := 14) (v := ?vya14) rfl (by kernel_rfl) (by kernel_rfl) (by kernel_rfl) (by kernel_rfl) (fun _ _ _ h => h) (Or.inl ⟨by rfl, ?hyya14⟩) (by assumption) ?rya14
       case hyya14 => intro w hSw; (try dsimp only at hSw); go_simp; first | done | with_reducible rfl
       case' rya14 => try simp only [Act.put, List.setIfInBounds_toArray, List.set_cons_zero, List.set_cons_succ]
       refine wpAnyH_done (by kernel_rfl) ?_ _
       clear z1 x1 hHeld
       go_wp2
       go_roundw
       case rel => exact ⟨k + 1, by omega, by omega, by go_num, by rw [HNX.out]; rfl, HFD.out, HED.out⟩
       case measure => simp [intOf]; omega
      | false =>
       go_wp2_with (fail)
       refine wp_region_held_drew (S := (fun W => W.cell? ⟨o, k * 2 + 1, none⟩ = some (.int .i64 y.2) ∧ W.cell? ⟨o, i * 2 + 1, none⟩ = some (.int .i64 cv))) (by kernel_rfl) ⟨(Ext.refl wr).drew.keep z1, (Ext.refl wr).drew.keep x1⟩ (fun hHeld => ?_)
       refine wpAnyH_takeD (some 34) (i := 0) (v := ?vna0) rfl (by kernel_rfl) (by kernel_rfl) (by kernel_rfl) (by kernel_rfl) (fun _ _ _ h => h) (Or.inl ⟨by rfl, ?hyna0⟩) (by assumption) ?rna0
       case hyna0 => intro w hSw; (try dsimp only at hSw); go_simp; first | done | with_reducible rfl
       case' rna0 => try simp only [Act.put, List.setIfInBounds_toArray, List.set_cons_zero, List.set_cons_succ]
       refine wpAnyH_takeD (some 35) (i := 1) (v := ?vna1) rfl (by kernel_rfl) (by kernel_rfl) (by kernel_rfl) (by kernel_rfl) (fun _ _ _ h => h) (Or.inl ⟨by rfl, ?hyna1⟩) (by assumption) ?rna1
       case hyna1 => intro w hSw; (try dsimp only at hSw); go_simp; first | done | with_reducible rfl
       case' rna1 => try simp only [Act.put, List.setIfInBounds_toArray, List.set_cons_zero, List.set_cons_succ]
       refine wpAnyH_takeD (some 36) (i := 2) (v := undef) rfl (by kernel_rfl) (by kernel_rfl) (by kernel_rfl) (by kernel_rfl) (fun _ _ _ h => h) (Or.inr ⟨by kernel_rfl, rfl⟩) (by assumption) ?_
       try simp only [Act.put, List.setIfInBounds_toArray, List.set_cons_zero, List.set_cons_succ]
       refine wpAnyH_takeD (some 37) (i := 3) (v := undef) rfl (by kernel_rfl) (by kernel_rfl) (by kernel_rfl) (by kernel_rfl) (fun _ _ _ h => h) (Or.inr ⟨by kernel_rfl, rfl⟩) (by assumption) ?_
       try simp only [Act.put, List.setIfInBounds_toArray, List.set_cons_zero, List.set_cons_succ]
       refine wpAnyH_takeD (some 38) (i := 4) (v := undef) rfl (by kernel_rfl) (by kernel_rfl) (by kernel_rfl) (by kernel_rfl) (fun _ _ _ h => h) (Or.inr ⟨by kernel_rfl, rfl⟩) (by assumption) ?_
       try simp only [Act.put, List.setIfInBounds_toArray, List.set_cons_zero, List.set_cons_succ]
       refine wpAnyH_takeD (some 39) (i := 5) (v := undef) rfl (by kernel_rfl) (by kernel_rfl) (by kernel_rfl) (by kernel_rfl) (fun _ _ _ h => h) (Or.inr ⟨by kernel_rfl, rfl⟩) (by assumption) ?_
       try simp only [Act.put, List.setIfInBounds_toArray, List.set_cons_zero, List.set_cons_succ]
       refine wpAnyH_takeD (some 40) (i := 6) (v := undef) rfl (by kernel_rfl) (by kernel_rfl) (by kernel_rfl) (by kernel_rfl) (fun _ _ _ h => h) (Or.inr ⟨by kernel_rfl, rfl⟩) (by assumption) ?_
       try simp only [Act.put, List.setIfInBounds_toArray, List.set_cons_zero, List.set_cons_succ]
       refine wpAnyH_takeD (some 41) (i := 7) (v := undef) rfl (by kernel_rfl) (by kernel_rfl) (by kernel_rfl) (by kernel_rfl) (fun _ _ _ h => h) (Or.inr ⟨by kernel_rfl, rfl⟩) (by assumption) ?_
       try simp only [Act.put, List.setIfInBounds_toArray, List.set_cons_zero, List.set_cons_succ]
       refine wpAnyH_takeD (some 42) (i := 8) (v := undef) rfl (by kernel_rfl) (by kernel_rfl) (by kernel_rfl) (by kernel_rfl) (fun _ _ _ h => h) (Or.inr ⟨by kernel_rfl, rfl⟩) (by assumption) ?_
       try simp only [Act.put, List.setIfInBounds_toArray, List.set_cons_zero, List.set_cons_succ]
       refine wpAnyH_takeD (some 43) (i := 9) (v := undef) rfl (by kernel_rfl) (by kernel_rfl) (by kernel_rfl) (by kernel_rfl) (fun _ _ _ h => h) (Or.inr ⟨by kernel_rfl, rfl⟩) (by assumption) ?_
       try simp only [Act.put, List.setIfInBounds_toArray, List.set_cons_zero, List.set_cons_succ]
       refine wpAnyH_takeD (some 44) (i := 10) (v := undef) rfl (by kernel_rfl) (by kernel_rfl) (by kernel_rfl) (by kernel_rfl) (fun _ _ _ h => h) (Or.inr ⟨by kernel_rfl, rfl⟩) (by assumption) ?_
       try simp only [Act.put, List.setIfInBounds_toArray, List.set_cons_zero, List.set_cons_succ]
       refine wpAnyH_takeD (some 45) (i := 11) (v := undef) rfl (by kernel_rfl) (by kernel_rfl) (by kernel_rfl) (by kernel_rfl) (fun _ _ _ h => h) (Or.inr ⟨by kernel_rfl, rfl⟩) (by assumption) ?_
       try simp only [Act.put, List.setIfInBounds_toArray, List.set_cons_zero, List.set_cons_succ]
       refine wpAnyH_takeD (some 46) (i := 12) (v := undef) rfl (by kernel_rfl) (by kernel_rfl) (by kernel_rfl) (by kernel_rfl) (fun _ _ _ h => h) (Or.inr ⟨by kernel_rfl, rfl⟩) (by assumption) ?_
       try simp only [Act.put, List.setIfInBounds_toArray, List.set_cons_zero, List.set_cons_succ]
       refine wpAnyH_takeD (some 47) (i := 13) (v := ?vna13) rfl (by kernel_rfl) (by kernel_rfl) (by kernel_rfl) (by kernel_rfl) (fun _ _ _ h => h) (Or.inl ⟨by rfl, ?hyna13⟩) (by assumption) ?rna13
       case hyna13 => intro w hSw; (try dsimp only at hSw); go_simp; first | done | with_reducible rfl
       case' rna13 => try simp only [Act.put, List.setIfInBounds_toArray, List.set_cons_zero, List.set_cons_succ]
       refine wpAnyH_takeD (some 6) (i := 14) (v := ?vna14) rfl (by kernel_rfl) (by kernel_rfl) (by kernel_rfl) (by kernel_rfl) (fun _ _ _ h => h) (Or.inl ⟨by rfl, ?hyna14⟩) (by assumption) ?rna14
       case hyna14 => intro w hSw; (try dsimp only at hSw); go_simp; first | done | with_reducible rfl
       case' rna14 => try simp only [Act.put, List.setIfInBounds_toArray, List.set_cons_zero, List.set_cons_succ]
       refine wpAnyH_done (by kernel_rfl) ?_ _
       clear z1 x1 hHeld
       go_wp2
       go_roundw
       case rel => exact ⟨k + 1, by omega, by omega, by go_num, by rw [HNX.out]; rfl, HFD.out, HED.out⟩
       case measure => simp [intOf]; omega
     ·obtain rfl : k = M := by omega
      rw [HLB.out]
      have hcl := HF2.out.cell (flg_get S hiM)
      have hfz := HF2.out.frozen (m := i)
      have HLO : Hid (L < wr.heap.size) := Lib.hid (lt_of_block HF2.out)
      have HLW : Hid (w3.heap.size ≤ L) := Lib.hid (by have := HL.out; omega)
      by_cases hlv : (i : Int) ∈ S ∨ lastB us i = true
      ·have HNW := Lib.hid (lvStep1_yes HUI.out hlv)
       have HF3 : Hid (FlgAt (wr.setCell ⟨L, i, none⟩ (.bool true)) L (flg k (S ++ [(i : Int)] ++ rdS us i rs 0))) := Lib.hid (by
        have h := HF2.out.set (m := i) true
        rw [flg_set] at h
        simpa [rdS] using h)
       have HE3 := Lib.hid (HE2.out.setCell (p := ⟨L, i, none⟩) HLW.out (.bool true))
       have hlb : decide ((i : Int) ∈ S) = true ∨ (decide ((i : Int) ∈ S) = false ∧ lastB us i = true) := by
        by_cases h : (i : Int) ∈ S
        ·exact .inl (decide_eq_true h)
        ·exact .inr ⟨decide_eq_false h, hlv.resolve_left h⟩
       have HIN : Hid (∀ k, (i : Int) ∈ S ++ [(i : Int)] ++ rdS us i rs k) := Lib.hid (fun k => by simp)
       have HNW2 : Hid (lvStep1 us i S = S ++ [(i : Int)] ++ rdS us i rs R) := Lib.hid (by rw [HNW.out]; dsimp only; rw [HRR.out])
       clear HNW HF2
       rcases hlb with h1 | ⟨h1, h2⟩
       all_goals
        rw [h1] at hcl
        try rw [h2]
        go_wp2
        clear hcl hfz h1
        go_loopw [8] (fun kv wr => ∃ j : Nat, j ≤ R ∧ kv = .int .i64 j ∧ FlgAt wr L (flg k (S ++ [(i : Int)] ++ rdS us i rs j)) ∧ Ext w3 wr) (fun kv _ => R - (intOf kv).toNat)
        case atStart => exact ⟨0, by omega, rfl, HF3.out, HE3.out⟩
        case round =>
         obtain ⟨j, hj, rfl, hf, hE⟩ := hrel
         have HF4 := Lib.hid hf; have HE4 := Lib.hid hE
         clear HF3 HE3 hf hE
         have HU' := Lib.hid (HU.out.ext HE4.out)
         obtain ⟨o, r, rk, rfl, hol, x0, -, hrx⟩ := HU'.out.elem HUI.out
         dsimp only at x0 hrx
         rw [HRR.out] at x0 hrx
         have HRX := Lib.hid hrx
         have hfl := HF4.out.cell (flg_get _ hiM)
         rw [decide_eq_true (HIN.out j)] at hfl
         clear hrx
         by_cases hlt : j < R
         ·obtain ⟨cl, hcl2⟩ := get_some (xs := rs) (k := j) (by rw [HRR.out]; exact hlt)
          obtain ⟨gs, rfl⟩ := HRX.out.atBlock hcl2
          have hcx := HRX.out.cellI hcl2
          have HNX := Lib.hid (rdS_next (us := us) (i := i) hcl2)
          have hjI : (j : Int) < (R : Int) := by omega
          have hsb := srcI_bd us i cl
          clear hcl2
          go_wp2_with (fail)
          refine (l6Source_any w2.heap.size (some ⟨o, 0, none⟩) k c us i cl _ HUM.out (by omega) (by omega) HU'.out).mono ?_
          obtain ⟨sv, hsv⟩ : ∃ z, srcI (lastW us i cl) = z := ⟨_, rfl⟩
          rw [hsv] at HNX hsb
          rw [hsv]
          rintro e w5 ⟨rfl, hE5⟩
          have HF5 : Hid (FlgAt w5 L (flg k (S ++ [(i : Int)] ++ rdS us i rs j))) := Lib.hid (hE5.blk HF4.out)
          have HE5 := Lib.hid (HE4.out.trans hE5)
          clear hE5 hsv hfl x0 hcx
          by_cases hs : 0 ≤ sv
          ·obtain ⟨n, rfl⟩ : ∃ n : Nat, sv = n := ⟨sv.toNat, by omega⟩
           have hbs : decide ((0 : Int) ≤ (n : Int)) = true := by simp
           have hnk : n < k := by omega
           have hnI : (n : Int) < (k : Int) := by omega
           have HF6 : Hid (FlgAt (w5.setCell ⟨L, n, none⟩ (.bool true)) L (flg k (S ++ [(i : Int)] ++ rdS us i rs (j + 1)))) := Lib.hid (by
            rw [HNX.out, if_pos hs, ← List.append_assoc, ← flg_set]
            exact HF5.out.set true)
           have HE6 := Lib.hid (HE5.out.setCell (p := ⟨L, n, none⟩) HLW.out (.bool true))
           have hcn := HF5.out.cell (flg_get _ hnk)
           have hfn := HF5.out.frozen (m := n)
           clear hs
           go_wp2
           go_roundw
           case rel => exact ⟨j + 1, by omega, by go_num, HF6.out, HE6.out⟩
           case measure => simp [intOf]; omega
          ·have hbs : decide ((0 : Int) ≤ sv) = false := by simpa using hs
           have HF6 : Hid (FlgAt w5 L (flg k (S ++ [(i : Int)] ++ rdS us i rs (j + 1)))) := Lib.hid (by
            rw [HNX.out, if_neg hs, List.append_nil]
            exact HF5.out)
           clear hs
           go_wp2
           go_roundw
           case rel => exact ⟨j + 1, by omega, by go_num, HF6.out, HE5.out⟩
           case measure => simp [intOf]; omega
         ·obtain rfl : j = R := by omega
          clear hfl
          go_wp2
          go_roundw
          case rel => exact ⟨(i : Int) - 1, by omega, by omega, by go_num, by rw [HSN.out, HNW2.out]; exact HF4.out, HE4.out⟩
          case measure => simp [intOf] <;> omega
      ·have h1 : (i : Int) ∉ S := fun h => hlv (.inl h)
       have h2 : lastB us i = false := by
        cases hh : lastB us i with
        | false => rfl
        | true => exact absurd (.inr hh) hlv
       have HNW := Lib.hid (lvStep1_no h1 h2)
       have HF3 : Hid (FlgAt (wr.setCell ⟨L, i, none⟩ (.bool false)) L (flg k S)) := Lib.hid (by
        have h := HF2.out.set (m := i) false
        rwa [flg_no h1] at h)
       have HE3 := Lib.hid (HE2.out.setCell (p := ⟨L, i, none⟩) HLW.out (.bool false))
       have HNS : Hid (decide ((i : Int) ∈ S) = false) := Lib.hid (decide_eq_false h1)
       rw [decide_eq_false h1] at hcl
       rw [h2]
       clear HF2 h1 h2 hlv
       go_wp2
       clear hcl hfz
       go_loopw [8] (fun kv wr => kv = .int .i64 0 ∧ FlgAt wr L (flg k S) ∧ Ext w3 wr) (fun _ _ => 0)
       case atStart => exact ⟨rfl, HF3.out, HE3.out⟩
       case round =>
        obtain ⟨rfl, hf, hE⟩ := hrel
        have HF4 := Lib.hid hf; have HE4 := Lib.hid hE
        clear HF3 HE3 hf hE
        have HU' := Lib.hid (HU.out.ext HE4.out)
        obtain ⟨o, r, rk, rfl, hol, x0, -, hrx⟩ := HU'.out.elem HUI.out
        dsimp only at x0
        rw [HRR.out] at x0
        have hfl := HF4.out.cell (flg_get _ hiM)
        rw [HNS.out] at hfl
        clear hrx
        by_cases hlt : 0 < R
        ·have hb1 : decide ((0 : Int) < (R : Int)) = true := by simpa using hlt
         go_wp2
         go_roundw
         case rel => exact ⟨(i : Int) - 1, by omega, by omega, by go_num, by rw [HSN.out, HNW.out]; exact HF4.out, HE4.out⟩
         case measure => simp [intOf] <;> omega
        ·obtain rfl : R = 0 := by omega
         clear hfl
         go_wp2
         go_roundw
         case rel => exact ⟨(i : Int) - 1, by omega, by omega, by go_num, by rw [HSN.out, HNW.out]; exact HF4.out, HE4.out⟩
         case measure => simp [intOf] <;> omega
   ·obtain rfl : x = -1 := by omega
    have HSM : Hid (flg M (liveTo us M M) = flg M (liveTo us M (M - ((-1 : Int) + 1).toNat))) := Lib.hid (by rw [show M - ((-1 : Int) + 1).toNat = M by omega])
    go_wp2_with (fail)
    refine (l5Flagged_any L M (liveTo us M M) _ (by rw [HSM.out]; exact HF.out) (by omega)).mono ?_
    rintro e w7 ⟨⟨v7, rfl, hv7⟩, hE7⟩
    have hsz : w.heap.size ≤ wr.heap.size := by have h1 := E1.out.size_le; have h2 := E3.out.size_le; have h3 := HE.out.size_le; omega
    have HV7 : Hid (IntsOwn w.heap.size w7 v7 (liB ars ps)) := Lib.hid (by rw [HR.out]; exact hv7.weak hsz)
    have E7 := Lib.hid (((E1.out.trans E3.out).trans HE.out).trans hE7)
    clear hE7 hv7
    go_wp2
    go_ret
    exact ⟨⟨_, rfl, HV7.out⟩, E7.out⟩
end Go.Proofs.YtmhldhjpfeageabGreat
