/- The texts G45 G42 G46, joined. No statement is proved here. -/
import Derived.Test.YtbcjllanigmioaaGreatK51
import Derived.Test.YtbcjllanigmioaaGreatK49
/- Lists of dependences: eqDepS, markDepS, heldDepS of the laws. No statement is proved here. -/
namespace Go.Proofs.YtbcjllanigmioaaGreat
open Go.RowKit

theorem DepsOwn.beside {B B' : Nat} {w w' : World} {v u : Value} {xs ys : List D3} (h : DepsOwn B w v xs) (hu : DepsOwn B' w u ys) (hv : ∀ b, v.ownBlock = some b → b < B') (hg : w.grownBy w' u.ownBlock) : DepsOwn B w' v xs := by
  refine World.ownsRow.kept h hg ?_
  cases hb : v.ownBlock with
  | none => exact .inl rfl
  | some b =>
    refine .inr (fun e => ?_)
    have h1 := hv b hb
    have h2 := (World.ownsRow.lt hu b e.symm).1
    omega
theorem flatD_set3 : ∀ {l : List D3} {j : Nat} {d d' : D3}, l[j]? = some d → (((flatD l).set (j * 3) (.int .i64 (d'.1 : Int))).set (j * 3 + 1) (.int .i64 (d'.2.1 : Int))).set (j * 3 + 2) (.int .i64 d'.2.2) = flatD (l.set j d')
  | [], _, _, _, h => by simp at h
  | x :: r, 0, d, d', h => by simp [flatD]
  | x :: r, j + 1, d, d', h => by
    rw [List.getElem?_cons_succ] at h
    have ih := flatD_set3 (d' := d') h
    have e : ∀ (x : D3) (r : List D3), flatD (x :: r) = .int .i64 (x.1 : Int) :: .int .i64 (x.2.1 : Int) :: .int .i64 x.2.2 :: flatD r := fun x r => by simp [flatD]
    rw [e, List.set_cons_succ, e, show (j + 1) * 3 = j * 3 + 1 + 1 + 1 by omega, show j * 3 + 1 + 1 + 1 + 1 = j * 3 + 1 + 1 + 1 + 1 by rfl, ← ih]
    simp only [List.set_cons_succ]
def mkD (k i : Nat) : D3 := (k + 3 * i, k + 3 * i + 1, ((k + 3 * i + 2 : Nat) : Int))
def marksD (k n : Nat) : List D3 := (List.range n).map (mkD k)
def mD (k : Nat) (l : List D3) (j : Nat) : List D3 := marksD k j ++ l.drop j
theorem marksD_len (k n : Nat) : (marksD k n).length = n := by simp [marksD]
theorem mD_len (k : Nat) (l : List D3) {j : Nat} (h : j ≤ l.length) : (mD k l j).length = l.length := by
  unfold mD; rw [List.length_append, marksD_len, List.length_drop]; omega
theorem mD_get (k : Nat) {l : List D3} {j : Nat} {d : D3} (h : l[j]? = some d) : (mD k l j)[j]? = some d := by
  unfold mD
  rw [List.getElem?_append_right (by rw [marksD_len]; exact Nat.le_refl _), marksD_len, Nat.sub_self, List.getElem?_drop]
  simpa using h
theorem mD_next (k : Nat) {l : List D3} {j : Nat} {d : D3} (h : l[j]? = some d) : mD k l (j + 1) = (mD k l j).set j (mkD k j) := by
  have hl := (List.getElem?_eq_some_iff.1 h).1
  have hd : l.drop j = d :: l.drop (j + 1) := by
    rw [List.drop_eq_getElem_cons hl]
    congr 1
    exact (List.getElem?_eq_some_iff.1 h).2
  unfold mD
  rw [List.set_append_right _ _ (by rw [marksD_len]; exact Nat.le_refl _), marksD_len, Nat.sub_self, hd]
  unfold marksD
  rw [List.range_succ, List.map_append, List.append_assoc]
  rfl
theorem mD_all (k : Nat) (l : List D3) : mD k l l.length = marksD k l.length := by unfold mD; rw [List.drop_eq_nil_of_le (Nat.le_refl _), List.append_nil]
theorem marksD_get {k n i : Nat} (h : i < n) : (marksD k n)[i]? = some (mkD k i) := by
  unfold marksD; rw [List.getElem?_map, List.getElem?_range h]; rfl

set_option linter.unusedVariables false in
set_option maxRecDepth 100000 in
theorem eqDep_same (a b c : Int) (w : World) : Calls Tryz.prog 50 #[.agg #[.int .i64 a, .int .i64 b, .int .i64 c], .agg #[.int .i64 a, .int .i64 b, .int .i64 c]] w fun e w' => e = .returned (.bool true) ∧ Ext w w' := by
  have h1 : (a != a) = false := by simp
  have h2 : (b != b) = false := by simp
  have h3 : (c != c) = false := by simp
  go_enter Tryz.func50, Tryz.ntmps50
  go_wp2
  go_ret
  exact ⟨rfl, ((Ext.refl w).alloc _).alloc _⟩

set_option linter.unusedVariables false in
set_option linter.unusedSimpArgs false in
set_option maxRecDepth 100000 in
set_option maxHeartbeats 2000000 in
theorem eqDepS_same (B B' : Nat) (p q : Option Addr) (n c c' : Nat) (ds : List D3) (w : World) (hn : ds.length = n) (hn2 : n ≤ 1000000) (hp : DepsOwn B w (.slice p n c) ds) (hq : DepsOwn B' w (.slice q n c') ds) :
    Calls Tryz.prog 32 #[.slice p n c, .slice q n c'] w fun e w' => e = .returned (.bool true) ∧ Ext w w' := by
  have HN := Lib.hid hn; have HP := Lib.hid hp; have HQ := Lib.hid hq
  have hnn : ((n : Int) != (n : Int)) = false := by simp
  clear hn hp hq
  go_enter Tryz.func32, Tryz.ntmps32
  go_wp2
  clear hnn
  go_loopw [5] (fun iv wr => ∃ k : Nat, k ≤ n ∧ iv = .int .i64 k ∧ Ext w wr) (fun iv _ => n - (intOf iv).toNat)
  case atStart => exact ⟨0, by omega, rfl, Ext.refl w⟩
  case round =>
    obtain ⟨k, hk, rfl, hE⟩ := hrel
    have HE := Lib.hid hE
    clear hE
    by_cases hlt : k < n
    · obtain ⟨d, hd⟩ := get_some (xs := ds) (k := k) (by rw [HN.out]; exact hlt)
      obtain ⟨o, rfl, -, hol, x0, x1, x2⟩ := (HP.out.ext HE.out).elem hd
      obtain ⟨o', rfl, -, hol', z0, z1, z2⟩ := (HQ.out.ext HE.out).elem hd
      obtain ⟨di, dk, dn⟩ := d
      dsimp only at x0 x1 x2 z0 z1 z2
      have hkI : (k : Int) < (n : Int) := by omega
      clear hd
      go_wp2_with (fail)
      go_region_held3 (fun W => W.cell? ⟨o, k * 3, none⟩ = some (.int .i64 (di : Int)) ∧ W.cell? ⟨o, k * 3 + 1, none⟩ = some (.int .i64 (dk : Int)) ∧ W.cell? ⟨o, k * 3 + 2, none⟩ = some (.int .i64 dn) ∧ W.cell? ⟨o', k * 3, none⟩ = some (.int .i64 (di : Int)) ∧ W.cell? ⟨o', k * 3 + 1, none⟩ = some (.int .i64 (dk : Int)) ∧ W.cell? ⟨o', k * 3 + 2, none⟩ = some (.int .i64 dn))
        (first | exact ⟨x0, x1, x2, z0, z1, z2⟩ | exact ⟨g3.keep x0, g3.keep x1, g3.keep x2, g3.keep z0, g3.keep z1, g3.keep z2⟩ | fail)
        (first | (go_at_call 50; (with_reducible refine (eqDep_same (di : Int) (dk : Int) dn _).mono ?_); rintro e w4 ⟨rfl, hE4⟩; have g3 := (Ext.refl wr).drew.trans hE4) | fail)
      have E4 := Lib.hid (HE.out.trans g3)
      clear g3 x0 x1 x2 z0 z1 z2
      go_wp2
      go_roundw
      case rel => exact ⟨k + 1, by omega, by go_num, E4.out⟩
      case measure => simp [intOf]; omega
    · obtain rfl : k = n := by omega
      go_wp2
      go_ret
      exact ⟨rfl, HE.out⟩

set_option linter.unusedVariables false in
set_option linter.unusedSimpArgs false in
set_option maxRecDepth 100000 in
set_option maxHeartbeats 2000000 in
theorem markDepS_any (B : Nat) (p : Option Addr) (n c : Nat) (ds : List D3) (k : Nat) (w : World) (hn : ds.length = n) (ho : DepsOwn B w (.slice p n c) ds) (hk : k + 3 * n ≤ 1000000000) :
    Calls Tryz.prog 33 #[.slice p n c, .int .i64 (k : Int)] w fun e w' => e = .returned (.int .i64 ((k : Int) + 3 * (n : Int))) ∧ DepsOwn B w' (.slice p n c) (marksD k n) ∧ w.grownBy w' (Value.slice p n c).ownBlock := by
  have HN := Lib.hid hn; have HO := Lib.hid ho
  clear hn ho
  go_enter Tryz.func33, Tryz.ntmps33
  go_wp2
  go_loopw [1, 5] (fun kv iv wr => ∃ j : Nat, j ≤ n ∧ iv = .int .i64 j ∧ kv = .int .i64 ((k : Int) + 3 * (j : Int)) ∧ DepsOwn B wr (.slice p n c) (mD k ds j) ∧ w.grownBy wr (Value.slice p n c).ownBlock) (fun _ iv _ => n - (intOf iv).toNat)
  case atStart => exact ⟨0, by omega, rfl, by simp, by simpa [mD, marksD] using HO.out, World.grownBy.refl _ _⟩
  case round =>
    obtain ⟨j, hj, rfl, rfl, ho, hg⟩ := hrel
    have HOJ := Lib.hid ho; have HG := Lib.hid hg
    clear ho hg
    by_cases hlt : j < n
    · obtain ⟨d, hd⟩ := get_some (xs := ds) (k := j) (by rw [HN.out]; exact hlt)
      have hmg := mD_get k hd
      obtain ⟨g, rfl, hgB, hgl, x0, x1, x2⟩ := HOJ.out.elem hmg
      have h0 : wr.ownsRow B 51 3 (.slice (some ⟨g, 0, none⟩) n c) n (flatD (mD k ds j)) := by
        have h := HOJ.out
        unfold DepsOwn at h
        rwa [mD_len k ds (by rw [HN.out]; omega), HN.out] at h
      have s1 := World.ownsRow.stored h0 (j * 3) (.int .i64 (((mkD k j).1 : Nat) : Int))
      have s2 := World.ownsRow.stored s1.1 (j * 3 + 1) (.int .i64 (((mkD k j).2.1 : Nat) : Int))
      have s3 := World.ownsRow.stored s2.1 (j * 3 + 2) (.int .i64 (mkD k j).2.2)
      rw [flatD_set3 hmg, ← mD_next k hd] at s3
      have e0 : (((mkD k j).1 : Nat) : Int) = (k : Int) + 3 * (j : Int) := by simp [mkD]
      have e1 : (((mkD k j).2.1 : Nat) : Int) = (k : Int) + 3 * (j : Int) + 1 := by simp [mkD]
      have e2 : (mkD k j).2.2 = (k : Int) + 3 * (j : Int) + 2 := by simp [mkD]
      rw [e0] at s1 s2 s3; rw [e1] at s2 s3; rw [e2] at s3
      obtain ⟨z, hz⟩ : ∃ z : Int, (k : Int) + 3 * (j : Int) = z := ⟨_, rfl⟩
      have hzb : 0 ≤ z ∧ z ≤ 1000000000 := by omega
      rw [hz] at s1 s2 s3 ⊢
      have HZ := Lib.hid hz
      obtain ⟨w1, hw1⟩ : ∃ w1, wr.setCell ⟨g, j * 3, none⟩ (.int .i64 z) = w1 := ⟨_, rfl⟩
      rw [hw1] at s1 s2 s3
      obtain ⟨w2, hw2⟩ : ∃ w2, w1.setCell ⟨g, j * 3 + 1, none⟩ (.int .i64 (z + 1)) = w2 := ⟨_, rfl⟩
      rw [hw2] at s2 s3
      obtain ⟨w3, hw3⟩ : ∃ w3, w2.setCell ⟨g, j * 3 + 2, none⟩ (.int .i64 (z + 2)) = w3 := ⟨_, rfl⟩
      rw [hw3] at s3
      have hln : (flatD (mD k ds j)).length = n * 3 := h0.1
      have f0 := World.ownsRow.frozenAt h0 (j * 3)
      have f1 := World.ownsRow.frozenAt s1.1 (j * 3 + 1)
      have f2 := World.ownsRow.frozenAt s2.1 (j * 3 + 2)
      obtain ⟨u1, hu1⟩ := get_some (xs := (flatD (mD k ds j)).set (j * 3) (.int .i64 z)) (k := j * 3 + 1) (by simp [hln]; omega)
      have y1 := World.ownsRow.cellAt s1.1 (j * 3 + 1) (by omega)
      rw [hu1] at y1
      obtain ⟨u2, hu2⟩ := get_some (xs := ((flatD (mD k ds j)).set (j * 3) (.int .i64 z)).set (j * 3 + 1) (.int .i64 (z + 1))) (k := j * 3 + 2) (by simp [hln]; omega)
      have y2 := World.ownsRow.cellAt s2.1 (j * 3 + 2) (by omega)
      rw [hu2] at y2
      have hjI : (j : Int) < (n : Int) := by omega
      have HOR : Hid (DepsOwn B w3 (.slice (some ⟨g, 0, none⟩) n c) (mD k ds (j + 1))) := Lib.hid (by
        unfold DepsOwn
        rw [mD_len k ds (by rw [HN.out]; omega), HN.out]
        exact s3.1)
      have HGR : Hid (w.grownBy w3 (Value.slice (some ⟨g, 0, none⟩) n c).ownBlock) := Lib.hid (((HG.out.trans s1.2).trans s2.2).trans s3.2)
      have hz3 : z + 2 + 1 = (k : Int) + 3 * ((j + 1 : Nat) : Int) := by omega
      have HZ3 := Lib.hid hz3
      have hz12 : z + 1 + 1 = z + 2 := by omega
      clear s1 s2 s3 h0 e0 e1 e2 hz hd hmg hu1 hu2 hln hz3
      go_wp2
      go_roundw
      case rel => exact ⟨j + 1, by omega, by go_num, by first | (rw [← HZ3.out]; done) | (rw [← HZ3.out]; go_num), HOR.out, HGR.out⟩
      case measure => simp [intOf]; omega
    · obtain rfl : j = n := by omega
      have HR : Hid (DepsOwn B wr (.slice p j c) (marksD k j)) := Lib.hid (by have h := HOJ.out; have e := mD_all k ds; rw [HN.out] at e; rwa [e] at h)
      go_wp2
      go_ret
      exact ⟨rfl, HR.out, HG.out⟩

set_option linter.unusedVariables false in
set_option linter.unusedSimpArgs false in
set_option maxRecDepth 100000 in
set_option maxHeartbeats 2000000 in
theorem heldDepS_any (B : Nat) (p : Option Addr) (n c k : Nat) (w : World) (ho : DepsOwn B w (.slice p n c) (marksD k n)) (hk : k + 3 * n ≤ 1000000000) :
    Calls Tryz.prog 34 #[.slice p n c, .int .i64 (k : Int)] w fun e w' => e = .returned (.int .i64 ((k : Int) + 3 * (n : Int))) ∧ w' = w := by
  have HO := Lib.hid ho
  clear ho
  go_enter Tryz.func34, Tryz.ntmps34
  go_wp2
  go_loopw [1, 5] (fun kv iv wr => ∃ j : Nat, j ≤ n ∧ iv = .int .i64 j ∧ kv = .int .i64 ((k : Int) + 3 * (j : Int)) ∧ wr = w) (fun _ iv _ => n - (intOf iv).toNat)
  case atStart => exact ⟨0, by omega, rfl, by simp, rfl⟩
  case round =>
    obtain ⟨j, hj, rfl, rfl, hw⟩ := hrel
    subst hw
    by_cases hlt : j < n
    · obtain ⟨g, rfl, hgB, hgl, x0, x1, x2⟩ := HO.out.elem (marksD_get (k := k) hlt)
      have e0 : (((mkD k j).1 : Nat) : Int) = (k : Int) + 3 * (j : Int) := by simp [mkD]
      have e1 : (((mkD k j).2.1 : Nat) : Int) = (k : Int) + 3 * (j : Int) + 1 := by simp [mkD]
      have e2 : (mkD k j).2.2 = (k : Int) + 3 * (j : Int) + 2 := by simp [mkD]
      rw [e0] at x0; rw [e1] at x1; rw [e2] at x2
      obtain ⟨z, hz⟩ : ∃ z : Int, (k : Int) + 3 * (j : Int) = z := ⟨_, rfl⟩
      have hzb : 0 ≤ z ∧ z ≤ 1000000000 := by omega
      rw [hz] at x0 x1 x2 ⊢
      have hz3 : z + 2 + 1 = (k : Int) + 3 * ((j + 1 : Nat) : Int) := by omega
      have HZ3 := Lib.hid hz3
      have hz12 : z + 1 + 1 = z + 2 := by omega
      have n0 : (z != z) = false := by simp
      have n1 : (z + 1 != z + 1) = false := by simp
      have n2 : (z + 2 != z + 2) = false := by simp
      have hjI : (j : Int) < (n : Int) := by omega
      clear e0 e1 e2 hz hz3
      go_wp2
      go_roundw
      case rel => exact ⟨j + 1, by omega, by go_num, by first | (rw [← HZ3.out]; done) | (rw [← HZ3.out]; go_num), by first | rfl | trivial⟩
      case measure => simp [intOf]; omega
    · obtain rfl : j = n := by omega
      go_wp2
      go_ret
      exact ⟨rfl, rfl⟩
end Go.Proofs.YtbcjllanigmioaaGreat

/- The program's LevelOrder. No statement is proved here. -/
namespace Go.Proofs.YtbcjllanigmioaaGreat
open Go.RowKit Go.Maps

set_option linter.unusedVariables false in
set_option linter.unusedSimpArgs false in
set_option maxRecDepth 100000 in
set_option maxHeartbeats 4000000 in
theorem LevelOrder_any (v : Value) (ars : List Arr) (ps : List Pt) (w : World) (hp : PrR w v ars ps) :
    Calls Tryz.prog 45 #[v] w fun e w' => (∃ v', e = .returned v' ∧ IntsOwn w.heap.size w' v' (loB ars ps)) ∧ Ext w w' := by
  obtain ⟨i0, hi, hz0, hz1, hz2⟩ := info_parts infoInt
  obtain ⟨qa, ca, qp, cp, rfl, -, -, -, -⟩ := hp.parts
  have HP := Lib.hid hp
  clear hp
  go_enter Tryz.func45, Tryz.ntmps45
  go_wp2_with (fail)
  obtain ⟨W1, hW1⟩ : ∃ W1, w.alloc (.cells #[.slice qa ars.length ca, .slice qp ps.length cp] 32) = W1 := ⟨_, rfl⟩
  have E1 : Hid (Ext w W1) := Lib.hid (by rw [← hW1]; exact (Ext.refl w).alloc _)
  try rw [hW1]
  clear hW1
  refine (graphOf_any _ ars ps _ (HP.out.ext E1.out)).mono ?_
  rintro e w2 ⟨⟨v2, rfl, hd⟩, hE2⟩
  obtain ⟨p2, c2, rfl⟩ := hd.form
  have HD2 := Lib.hid hd; have E2 := Lib.hid (E1.out.trans hE2)
  clear hd hE2
  go_wp2_with (fail)
  refine (levels_any _ (cntB ars ps) _ c2 p2 (depsB ars ps) _ HD2.out rfl (depsB_len ars ps) (cntB_120 ars ps) (fun d hd => depsB_mem hd)).mono ?_
  rintro e w3 ⟨⟨v3, rfl, hl⟩, hE3⟩
  obtain ⟨p, c, rfl⟩ := ints_form hl
  rw [lvF_len] at hl ⊢
  obtain ⟨n, hn⟩ : ∃ n, cntB ars ps = n := ⟨_, rfl⟩
  have hlv0 : lvB ars ps = lvF n (depsB ars ps) := by rw [← hn]; rfl
  rw [hn] at hl ⊢
  have hn120 : n ≤ 120 := by rw [← hn]; exact cntB_120 ars ps
  have HLN : Hid ((lvB ars ps).length = n) := Lib.hid (by rw [lvB_len, hn])
  rw [← hlv0] at hl
  have E3 := Lib.hid (E2.out.trans hE3); have HL3 := Lib.hid hl.at
  have hcb := clB_bd ars ps
  have hlb := fun k hk => lo_len ars ps k hk
  have HRB : Hid (loB ars ps = loF (lvB ars ps) (clB ars ps).toNat) := Lib.hid rfl
  obtain ⟨cl, hcl⟩ : ∃ cl, clB ars ps = cl := ⟨_, rfl⟩
  have HLB := Lib.hid (lvB_bd ars ps)
  have HCL : Hid (lenF (lvB ars ps) = cl) := Lib.hid hcl
  rw [hcl] at hcb hlb HRB
  obtain ⟨lv, hlv⟩ : ∃ lv, lvB ars ps = lv := ⟨_, rfl⟩
  rw [hlv] at HLN HL3 HLB HCL hlb HRB
  have HLO := Lib.hid hlb
  clear hl hE3 hn hcl hlb hlv hlv0
  go_wp2_with (fail)
  refine (countLevels_any p n c lv _ HLN.out HLB.out HL3.out).mono ?_
  rw [HCL.out]
  rintro e w4 ⟨rfl, hE4⟩
  have E4 := Lib.hid (E3.out.trans hE4); have HL4 := Lib.hid (HL3.out.ext hE4)
  clear hE4
  obtain ⟨hcap, hcc⟩ := HL4.out.cl
  have HC := Lib.hid hcc
  clear hcc
  go_wp2
  go_loopw [4, 13] (fun ov iv wr => ∃ (k m : Nat) (po : Option Addr) (co : Nat), (k : Int) ≤ cl ∧ iv = .int .i64 k ∧ ov = .slice po m co ∧ (loF lv k).length = m ∧ wr.ownsRow w4.heap.size 3 1 (.slice po m co) m ((loF lv k).map (Value.int .i64)) ∧ Ext w4 wr) (fun _ iv _ => (cl - intOf iv).toNat)
  case atStart => exact ⟨0, 0, _, _, by omega, rfl, rfl, rfl, World.ownsRow_nil _ _ _ _, Ext.refl w4⟩
  case round =>
    obtain ⟨k, m, po, co, hk, rfl, rfl, hm, ho, hE⟩ := hrel
    have HMM := Lib.hid hm; have HO := Lib.hid ho; have HE := Lib.hid hE
    clear hm ho hE
    by_cases hlt : (k : Int) < cl
    · have hb : decide ((k : Int) < cl) = true := by simpa using hlt
      have HA0 : Hid ((loF lv k ++ atLv lv (k : Int) 0).length = m) := Lib.hid (by simpa [atLv] using HMM.out)
      have HO0 : Hid (wr.ownsRow w4.heap.size 3 1 (.slice po m co) m ((loF lv k ++ atLv lv (k : Int) 0).map (Value.int .i64))) := Lib.hid (by simpa [atLv] using HO.out)
      go_wp2
      clear hb
      go_loopw [4, 18] (fun ov jv wr => ∃ (j m : Nat) (po : Option Addr) (co : Nat), j ≤ n ∧ jv = .int .i64 j ∧ ov = .slice po m co ∧ (loF lv k ++ atLv lv (k : Int) j).length = m ∧ wr.ownsRow w4.heap.size 3 1 (.slice po m co) m ((loF lv k ++ atLv lv (k : Int) j).map (Value.int .i64)) ∧ Ext w4 wr) (fun _ jv _ => n - (intOf jv).toNat)
      case atStart => exact ⟨0, m, _, _, by omega, rfl, rfl, HA0.out, HO0.out, HE.out⟩
      case round =>
        obtain ⟨j, m, po, co, hj, rfl, rfl, hm, ho, hE⟩ := hrel
        clear HMM HO HE HA0 HO0
        have hm2 : m ≤ 14520 := by
          have h1 := HLO.out k (by omega)
          have h2 := atLv_len lv (k : Int) j
          rw [List.length_append] at hm
          omega
        have HMM := Lib.hid hm; have HO := Lib.hid ho; have HE := Lib.hid hE
        clear hm ho hE
        by_cases hlt2 : j < n
        · obtain ⟨y, hy⟩ := get_some (xs := lv) (k := j) (by rw [HLN.out]; exact hlt2)
          obtain ⟨b, off, rfl, hcell⟩ := HC.out j y hy
          have hcy := HE.out.keep hcell
          have hjI : (j : Int) < (n : Int) := by omega
          clear hcell
          by_cases he : y = (k : Int)
          · have hb : (y == (k : Int)) = true := by simpa using he
            have HN1 : Hid (loF lv k ++ atLv lv (k : Int) (j + 1) = (loF lv k ++ atLv lv (k : Int) j) ++ [(j : Int)]) := Lib.hid (by rw [atLv_yes hy he, List.append_assoc])
            obtain ⟨X, hX⟩ : ∃ X, loF lv k ++ atLv lv (k : Int) j = X := ⟨_, rfl⟩
            rw [hX] at HMM HO HN1
            have HOX := Lib.hid (ownsRow_ext HO.out ((Ext.refl wr).alloc (.cells #[.int .i64 (j : Int)] 3)))
            have hsz : w4.heap.size ≤ wr.heap.size := HE.out.size_le
            clear he hX hy
            go_wp2_with (at_builtin; refine wpList_append_own_at _ rfl (.tmp 26) (.tmp 28) 27 rfl w4.heap.size 3 i0 (.int .i64 0) 1 8 Tryz.underlying27 hi hz0 hz1 hz2 rfl (by decide) (.slice po m co) m _ rfl HOX.out ⟨wr.heap.size, 0, none⟩ 1 1 [.int .i64 (j : Int)] rfl rfl ?c1 ?c2 ?c3 ?c4 ?c5 ?_)
            case c1 => exact one_cell (by simp)
            case c2 => intro u hu; simp at hu; subst hu; rfl
            case c3 => unfold maxLen; omega
            case c4 => omega
            case c5 => simp; omega
            intro v' w5 hown' hgrow _ hat
            obtain ⟨po', co', rfl⟩ : ∃ po' co', v' = .slice po' (m + 1) co' := by
              rcases hown'.2 with ⟨rfl, hn0⟩ | ⟨g', cap, cur, e, _⟩
              · exact absurd hn0 (by omega)
              · exact ⟨_, cap, e⟩
            have HRW' : Hid (w5.ownsRow w4.heap.size 3 1 (.slice po' (m + 1) co') (m + 1) ((loF lv k ++ atLv lv (k : Int) (j + 1)).map (Value.int .i64))) := Lib.hid (by rw [HN1.out, List.map_append]; simpa using hown')
            have HM1 : Hid ((loF lv k ++ atLv lv (k : Int) (j + 1)).length = m + 1) := Lib.hid (by rw [HN1.out, List.length_append, HMM.out]; rfl)
            have HE5 := Lib.hid ((HE.out.alloc (.cells #[.int .i64 (j : Int)] 3)).grown hgrow (fun b hb => (HOX.out.lt b hb).1))
            clear hown' hgrow hat hcy
            go_wp2
            go_roundw
            case rel => exact ⟨j + 1, m + 1, _, _, by omega, by go_num, rfl, HM1.out, HRW'.out, HE5.out⟩
            case measure => simp [intOf]; omega
          · have hb : (y == (k : Int)) = false := by simpa using he
            have HN1 : Hid (atLv lv (k : Int) (j + 1) = atLv lv (k : Int) j) := Lib.hid (atLv_no hy he)
            clear he hy
            go_wp2
            go_roundw
            case rel => exact ⟨j + 1, m, _, _, by omega, by go_num, rfl, by rw [HN1.out]; exact HMM.out, by rw [HN1.out]; exact HO.out, HE.out⟩
            case measure => simp [intOf]; omega
        · obtain rfl : j = n := by omega
          have HN1 : Hid (loF lv (k + 1) = loF lv k ++ atLv lv (k : Int) j) := Lib.hid (by rw [loF_next, HLN.out])
          go_wp2
          go_roundw
          case rel => exact ⟨k + 1, m, _, _, by omega, by go_num, rfl, by rw [HN1.out]; exact HMM.out, by rw [HN1.out]; exact HO.out, HE.out⟩
          case measure => simp [intOf]; omega
    · have hb : decide ((k : Int) < cl) = false := by simpa using hlt
      have HKC : Hid (cl.toNat = k) := Lib.hid (by omega)
      have hsz := E4.out.size_le
      clear hlt
      go_wp2
      go_ret
      refine ⟨⟨_, rfl, ?_⟩, E4.out.trans HE.out⟩
      rw [HRB.out, HKC.out]
      exact IntsOwn.weak (IntsOwn.mk HO.out HMM.out) hsz
end Go.Proofs.YtbcjllanigmioaaGreat

/- The program's Dependences. No statement is proved here. -/
namespace Go.Proofs.YtbcjllanigmioaaGreat
open Go.RowKit Go.Maps

set_option linter.unusedVariables false in
set_option maxRecDepth 100000 in
set_option maxHeartbeats 2000000 in
theorem Dependences_any (v : Value) (ars : List Arr) (ps : List Pt) (w : World) (hp : PrR w v ars ps) :
    Calls Tryz.prog 31 #[v] w fun e w' => (∃ v', e = .returned v' ∧ DepsOwn w.heap.size w' v' (depsB ars ps)) ∧ Ext w w' := by
  obtain ⟨qa, ca, qp, cp, rfl, -, -, ha, hps⟩ := hp.parts
  have HA := Lib.hid ha; have HPS := Lib.hid hps
  clear hp ha hps
  go_enter Tryz.func31, Tryz.ntmps31
  go_wp2_with (fail)
  obtain ⟨W1, hW1⟩ : ∃ W1, w.alloc (.cells #[.slice qa ars.length ca, .slice qp ps.length cp] 32) = W1 := ⟨_, rfl⟩
  have E1 : Hid (Ext w W1) := Lib.hid (by rw [← hW1]; exact (Ext.refl w).alloc _)
  try rw [hW1]
  clear hW1
  refine (programOf_any qa qp _ ca _ cp ars ps _ rfl rfl (HA.out.ext E1.out) (HPS.out.ext E1.out)).mono ?_
  rintro e w2 ⟨⟨v, rfl, h0, h1⟩, hE⟩
  have HE := Lib.hid (E1.out.trans hE)
  clear hE
  obtain ⟨B0, hB0⟩ : ∃ B0, W1.heap.size = B0 := ⟨_, rfl⟩
  rw [hB0] at h1
  have hform : ∃ mo T q1 n1 c1 q2 M c2, ∃ es : List Ev, v = .agg #[.map mo, .int .i64 T, .slice q1 n1 c1, .slice q2 M c2] ∧ es.length = M ∧ M ≤ 120 ∧ EvsOwn B0 w2 (.slice q2 M c2) es ∧ cntB ars ps = M ∧ dpOf (kEv es) (prTo M M) = depsB ars ps := by
    cases hb : progB ars ps with
    | false => exact ⟨_, _, _, _, _, _, _, _, [], h0 hb, rfl, by omega, ⟨[], World.ownsRow_nil _ _ _ _, fun i x h => by simp at h⟩, by unfold cntB; rw [hb]; rfl, by unfold depsB; rw [hb]; rfl⟩
    | true =>
      obtain ⟨Bm, D, q1, c1, q2, c2, rfl, -, -, -, -, he⟩ := h1 hb
      exact ⟨_, _, _, _, _, _, _, _, evsOf ars ps, rfl, rfl, by have := insM_120 hb; simpa [evsOf] using this, he, (evs_cnt hb).symm, by rw [evs_cnt hb]; exact dl_deps hb⟩
  obtain ⟨mo, T, q1, n1, c1, q2, M, c2, es, rfl, hM, hM120, hev, hcnt, hdl⟩ := hform
  have HM := Lib.hid hM; have HEV := Lib.hid hev; have HDL := Lib.hid hdl
  clear h0 h1 hM hev hdl hB0 hcnt
  have hHS := Lib.hid HE.out.size_le
  go_wp2_with (fail)
  obtain ⟨w3, hw3⟩ : ∃ w3, w2.alloc (.cells #[.map mo, .int .i64 T, .slice q1 n1 c1, .slice q2 M c2] 88) = w3 := ⟨_, rfl⟩
  have E23 : Ext w2 w3 := by rw [← hw3]; exact (Ext.refl w2).alloc _
  have E3 : Hid (Ext w w3) := Lib.hid (HE.out.trans E23)
  have HEV3 := Lib.hid (HEV.out.ext E23)
  try rw [hw3]
  clear hw3 E23
  refine (dependences_call mo T q1 q2 n1 c1 M c2 w3).mono ?_
  rintro e w4 ⟨rfl, rfl⟩
  go_wp2_with (fail)
  refine (depsOf_any B0 es mo T q1 q2 n1 c1 M c2 w3 HM.out hM120 HEV3.out).mono ?_
  rintro e w5 ⟨⟨v5, rfl, hd⟩, hE5⟩
  rw [HDL.out] at hd
  have HD := Lib.hid (hd.weak E3.out.size_le); have E5 := Lib.hid (E3.out.trans hE5)
  clear hd hE5
  go_wp2
  go_ret
  exact ⟨⟨_, rfl, HD.out⟩, E5.out⟩
end Go.Proofs.YtbcjllanigmioaaGreat
