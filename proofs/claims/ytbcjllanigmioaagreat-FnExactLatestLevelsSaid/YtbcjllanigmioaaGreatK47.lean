import Derived.Test.YtbcjllanigmioaaGreatK45
import Derived.Test.YtbcjllanigmioaaGreatK51
import Derived.StillTailTactics
namespace Go.Proofs.YtbcjllanigmioaaGreat
open Go.RowKit Go.Maps
set_option linter.unusedVariables false in
set_option linter.unusedSimpArgs false in
set_option maxRecDepth 100000 in
set_option maxHeartbeats 4000000 in
theorem l6Deps_any (v : Value) (ars : List Arr) (ps : List Pt) (w : World) (hp : PrR w v ars ps) (hb : progB ars ps = true) :
    Calls Tryz.prog 72 #[v] w fun e w' => (∃ v', e = .returned v' ∧ DepsOwn w.heap.size w' v' (depsB ars ps)) ∧ Ext w w' := by
  obtain ⟨j0, hj0, hj1, hj2, hj3⟩ := info_parts infoDep
  obtain ⟨qa, ca, qp, cp, rfl, hla, hlp, ha, hps⟩ := hp.parts
  obtain ⟨na, hna⟩ : ∃ n, ars.length = n := ⟨_, rfl⟩
  obtain ⟨np, hnp⟩ : ∃ n, ps.length = n := ⟨_, rfl⟩
  have hM120 := insM_120 hb
  obtain ⟨M, hM⟩ : ∃ M, (insM ps).length = M := ⟨_, rfl⟩
  obtain ⟨K, hK⟩ : ∃ K, kOf (usesM ars ps) = K := ⟨_, rfl⟩
  have hdb : depsB ars ps = depsTo K M M := by unfold depsB; rw [if_pos hb, hM, hK]
  rw [hM] at hM120
  rw [hna, hnp] at hp ⊢
  rw [hdb]
  have HP := Lib.hid hp; have HB := Lib.hid hb; have HM := Lib.hid hM; have HK := Lib.hid hK
  have HUM : Hid ((usesM ars ps).length = M) := Lib.hid (by rw [usesM_len, hM])
  clear hp ha hps hna hnp hb hM hK hdb
  go_enter Tryz.func72, Tryz.ntmps72
  go_wp2_with (fail)
  obtain ⟨W1, hW1⟩ : ∃ W1, w.alloc (.cells #[.slice qa na ca, .slice qp np cp] 32) = W1 := ⟨_, rfl⟩
  have E1 : Hid (Ext w W1) := Lib.hid (by rw [← hW1]; exact (Ext.refl w).alloc _)
  have HZ1 : Hid (W1.heap.size = w.heap.size + 1) := Lib.hid (by rw [← hW1]; simp)
  obtain ⟨W2, hW2⟩ : ∃ W2, W1.alloc (.cells #[] 51) = W2 := ⟨_, rfl⟩
  have HI0 : Hid (DepsOwn (w.heap.size + 1) W2 (.slice (some ⟨w.heap.size + 1, 0, none⟩) 0 0) []) := Lib.hid (by have h := World.ownsRow_made (e := 51) (size := 3) W1 #[] 0 (Nat.le_refl _) (Nat.zero_le _) rfl; rw [HZ1.out, hW2] at h; exact h)
  have E2 := Lib.hid (show Ext W1 W2 by rw [← hW2]; exact (Ext.refl W1).alloc _)
  try rw [hW1]
  try rw [hW2]
  clear hW1 hW2
  refine (l6Uses_any _ ars ps _ (HP.out.ext (E1.out.trans E2.out)) HB.out).mono ?_
  rintro e w3 ⟨⟨q, c, rfl, hu⟩, hE3⟩
  rw [HM.out] at hu ⊢
  have HU := Lib.hid hu; have E3 := Lib.hid (E2.out.trans hE3); have HD3 := Lib.hid (HI0.out.ext hE3)
  clear hE3 hu
  go_wp2
  go_loopw [3, 5] (fun ov iv wr => ∃ (i : Nat) (q0 : Option Addr) (m c0 : Nat), i ≤ M ∧ iv = .int .i64 i ∧ ov = .slice q0 m c0 ∧ (depsTo K M i).length = m ∧ DepsOwn (w.heap.size + 1) wr (.slice q0 m c0) (depsTo K M i) ∧ UsesOwn W2.heap.size wr (.slice q M c) (usesM ars ps) ∧ Ext W1 wr) (fun _ iv _ => M - (intOf iv).toNat)
  case atStart => exact ⟨0, _, 0, _, by omega, rfl, rfl, rfl, HD3.out, HU.out, E3.out⟩
  case round =>
    obtain ⟨i, q0, m, c0, hi, rfl, rfl, hm, hd, hu, hE⟩ := hrel
    clear HD3 HU
    have HMM := Lib.hid hm; have HD := Lib.hid hd; have HU := Lib.hid hu; have HE := Lib.hid hE
    clear hm hd hu hE
    by_cases hiM : i < M
    · have HA : Hid ((depsTo K M i ++ rowTo K i (i + 1)).length = m) := Lib.hid (by rw [rowTo_start K i _ (Nat.le_refl _), List.append_nil]; exact HMM.out)
      have HD1 : Hid (DepsOwn (w.heap.size + 1) wr (.slice q0 m c0) (depsTo K M i ++ rowTo K i (i + 1))) := Lib.hid (by rw [rowTo_start K i _ (Nat.le_refl _), List.append_nil]; exact HD.out)
      go_wp2
      go_loopw [3, 6] (fun ov kv wr => ∃ (k : Nat) (q0 : Option Addr) (m c0 : Nat), i + 1 ≤ k ∧ k ≤ M ∧ kv = .int .i64 k ∧ ov = .slice q0 m c0 ∧ (depsTo K M i ++ rowTo K i k).length = m ∧ DepsOwn (w.heap.size + 1) wr (.slice q0 m c0) (depsTo K M i ++ rowTo K i k) ∧ UsesOwn W2.heap.size wr (.slice q M c) (usesM ars ps) ∧ Ext W1 wr) (fun _ kv _ => M - (intOf kv).toNat)
      case atStart => exact ⟨i + 1, _, m, _, by omega, by omega, by go_num, rfl, HA.out, HD1.out, HU.out, HE.out⟩
      case round =>
        obtain ⟨k, q0, m, c0, hik, hk, rfl, rfl, hm, hd, hu, hE⟩ := hrel
        clear HD HD1 HU HE HMM HA
        have hmb : m ≤ 14520 := by
          have h1 := depsTo_len K M i
          have h2 := rowTo_len K i k
          have h3 : i * M ≤ 120 * 120 := Nat.mul_le_mul (by omega) (by omega)
          rw [List.length_append] at hm
          omega
        have HMM := Lib.hid hm; have HD := Lib.hid hd; have HU := Lib.hid hu; have HE := Lib.hid hE
        clear hm hd hu hE
        by_cases hkM : k < M
        · obtain ⟨x, hx⟩ := get_some (xs := usesM ars ps) (k := i) (by rw [HUM.out]; exact hiM)
          obtain ⟨y, hy⟩ := get_some (xs := usesM ars ps) (k := k) (by rw [HUM.out]; exact hkM)
          obtain ⟨o, r, rk, rfl, hol, x0, x1, hrx⟩ := HU.out.elem hx
          obtain ⟨o', s, sk, ho', -, z0, z1, hry⟩ := HU.out.elem hy
          obtain rfl : o = o' := by cases ho'; rfl
          obtain ⟨kk, hkk⟩ : ∃ z, K i k = z := ⟨_, rfl⟩
          have HR : Hid (kindB x y = kk) := Lib.hid (by rw [← hkk, ← HK.out]; exact (kOf_is hx hy).symm)
          have hkb := kind_bd x y
          rw [HR.out] at hkb
          obtain ⟨lx, hlx⟩ : ∃ n, x.1.length = n := ⟨_, rfl⟩
          obtain ⟨ly, hly⟩ : ∃ n, y.1.length = n := ⟨_, rfl⟩
          rw [hlx] at x0 hrx; rw [hly] at z0 hry
          have HX := Lib.hid hrx; have HY := Lib.hid hry; have HLX := Lib.hid hlx; have HLY := Lib.hid hly; have HKK := Lib.hid hkk
          have hiI : (i : Int) < (M : Int) := by omega
          have hkI : (k : Int) < (M : Int) := by omega
          clear hx hy hrx hry hlx hly ho' hkk
          go_wp2_with (fail)
          go_region_held3 (fun W => W.cell? ⟨o, i * 2, none⟩ = some (.slice r lx rk) ∧ W.cell? ⟨o, i * 2 + 1, none⟩ = some (.int .i64 x.2) ∧ W.cell? ⟨o, k * 2, none⟩ = some (.slice s ly sk) ∧ W.cell? ⟨o, k * 2 + 1, none⟩ = some (.int .i64 y.2))
            (first | exact ⟨x0, x1, z0, z1⟩ | exact ⟨g3.keep x0, g3.keep x1, g3.keep z0, g3.keep z1⟩ | fail)
            (first | (go_at_call 113; (with_reducible refine (l6Kinds_any r s lx ly rk sk x y _ HLX.out HLY.out (IntsAt.ext (IntsOwn.at HX.out) (Ext.refl wr).drew) (IntsAt.ext (IntsOwn.at HY.out) (Ext.refl wr).drew)).mono ?_); rw [HR.out]; rintro e w4 ⟨rfl, hE4⟩; have g3 := (Ext.refl wr).drew.trans hE4) | fail)
          have E4 := Lib.hid (HE.out.trans g3); have HD4 := Lib.hid (HD.out.ext g3); have HU4 := Lib.hid (HU.out.ext g3)
          clear g3 x0 x1 z0 z1
          by_cases hk0 : kk = 0
          · have hb : (kk != 0) = false := by simp [hk0]
            have HN : Hid (depsTo K M i ++ rowTo K i (k + 1) = depsTo K M i ++ rowTo K i k) := Lib.hid (by rw [rowTo_next, depAt_no (by rw [HKK.out]; exact hk0), List.append_nil])
            clear hk0
            go_wp2
            go_roundw
            case rel => exact ⟨k + 1, _, m, _, by omega, by omega, by go_num, rfl, by rw [HN.out]; exact HMM.out, by rw [HN.out]; exact HD4.out, HU4.out, E4.out⟩
            case measure => simp [intOf]; omega
          · have hb : (kk != 0) = true := by simp [hk0]
            have HN : Hid (depsTo K M i ++ rowTo K i (k + 1) = (depsTo K M i ++ rowTo K i k) ++ [(i, k, kk)]) := Lib.hid (by rw [rowTo_next, depAt_yes (by omega) (by rw [HKK.out]; exact hk0), HKK.out, List.append_assoc])
            obtain ⟨L, hL⟩ : ∃ L, depsTo K M i ++ rowTo K i k = L := ⟨_, rfl⟩
            rw [hL] at HMM HD4 HN
            have HD5 := Lib.hid (HD4.out.ext ((Ext.refl w4).alloc (.cells #[.int .i64 (i : Int), .int .i64 (k : Int), .int .i64 kk] 51)))
            have ho := HD5.out
            unfold DepsOwn at ho
            rw [HMM.out] at ho
            have htag := own_tag ho
            have hs5 : w.heap.size + 1 ≤ w4.heap.size := by have := E4.out.size_le; have := HZ1.out; omega
            clear hk0 hL
            go_wp2_with (at_builtin; refine wpList_append_own_at _ rfl (.tmp 36) (.tmp 41) 42 rfl (w.heap.size + 1) 51 j0 (.agg #[.int .i64 0, .int .i64 0, .int .i64 0]) 3 24 underDep hj0 hj1 hj2 hj3 rfl (by decide) (.slice q0 m c0) m (flatD L) rfl ho ⟨w4.heap.size, 0, none⟩ 1 1 [.int .i64 (i : Int), .int .i64 (k : Int), .int .i64 kk] rfl rfl (tri_cells (by simp)) ?e2 ?e3 ?e4 ?e5 ?_)
            case e2 => intro u hu; simp at hu; rcases hu with rfl | rfl | rfl <;> rfl
            case e3 => unfold maxLen; omega
            case e4 => omega
            case e5 => simp; omega
            intro v2 w6 hown2 hgrow2 hnil2 hat2
            obtain ⟨gq, dq, rfl, hdq⟩ := own_form' hown2 (by first | exact hnil2 | exact fun e => by have := (hnil2.1 e).2; omega)
            have HL1 : Hid ((L ++ [(i, k, kk)]).length = m + 1) := Lib.hid (by rw [List.length_append, HMM.out]; rfl)
            have HRS : Hid (DepsOwn (w.heap.size + 1) w6 (.slice (some ⟨gq, 0, none⟩) (m + 1) dq) (L ++ [(i, k, kk)])) := Lib.hid (by unfold DepsOwn; rw [HL1.out, flatD_snoc]; exact hown2)
            have EW := Lib.hid ((E4.out.alloc (.cells #[.int .i64 (i : Int), .int .i64 (k : Int), .int .i64 kk] 51)).grown hgrow2 (fun b hb => by have := (ho.lt b hb).1; have := HZ1.out; omega))
            have HU6 := Lib.hid (UsesOwn.tag (HU4.out.ext ((Ext.refl w4).alloc (.cells #[.int .i64 (i : Int), .int .i64 (k : Int), .int .i64 kk] 51))) hgrow2 htag (by decide) (by decide))
            clear hown2 hgrow2 hnil2 hat2 ho htag hs5
            go_wp2
            go_roundw
            case rel => exact ⟨k + 1, some ⟨gq, 0, none⟩, m + 1, dq, by omega, by omega, by go_num, rfl, by rw [HN.out]; exact HL1.out, by rw [HN.out]; exact HRS.out, HU6.out, EW.out⟩
            case measure => simp [intOf]; omega
        · obtain rfl : k = M := by omega
          have HN := Lib.hid (depsTo_next K k i)
          go_wp2
          go_roundw
          case rel => exact ⟨i + 1, q0, m, c0, by omega, by go_num, rfl, by rw [HN.out]; exact HMM.out, by rw [HN.out]; exact HD.out, HU.out, HE.out⟩
          case measure => simp [intOf]; omega
    · obtain rfl : i = M := by omega
      go_wp2
      go_ret
      exact ⟨⟨_, rfl, HD.out.weak (Nat.le_succ _)⟩, E1.out.trans HE.out⟩
set_option linter.unusedVariables false in
set_option maxRecDepth 100000 in
set_option maxHeartbeats 2000000 in
theorem specDependences_any (v : Value) (ars : List Arr) (ps : List Pt) (w : World) (hp : PrR w v ars ps) :
    Calls Tryz.prog 30 #[v] w fun e w' => (∃ v', e = .returned v' ∧ DepsOwn w.heap.size w' v' (depsB ars ps)) ∧ Ext w w' := by
  obtain ⟨qa, ca, qp, cp, rfl, hla, hlp, ha, hps⟩ := hp.parts
  obtain ⟨na, hna⟩ : ∃ n, ars.length = n := ⟨_, rfl⟩
  obtain ⟨np, hnp⟩ : ∃ n, ps.length = n := ⟨_, rfl⟩
  rw [hna, hnp] at hp ⊢
  obtain ⟨pb, hpb⟩ : ∃ a, progB ars ps = a := ⟨_, rfl⟩
  have HP := Lib.hid hp; have HPB := Lib.hid hpb
  clear hp ha hps hna hnp hpb
  go_enter Tryz.func30, Tryz.ntmps30
  go_wp2_with (fail)
  obtain ⟨W1, hW1⟩ : ∃ W1, w.alloc (.cells #[.slice qa na ca, .slice qp np cp] 32) = W1 := ⟨_, rfl⟩
  have E1 : Hid (Ext w W1) := Lib.hid (by rw [← hW1]; exact (Ext.refl w).alloc _)
  have B1 := Lib.hid (show W1.heap[w.heap.size]? = some (.cells #[.slice qa na ca, .slice qp np cp] 32 (0, 0)) by rw [← hW1]; exact blk_at rfl)
  try rw [hW1]
  clear hW1
  refine (specProgramValid_any _ ars ps _ (HP.out.ext E1.out)).mono ?_
  rw [HPB.out]
  rintro e w2 ⟨rfl, hE2⟩
  have E2 := Lib.hid (E1.out.trans hE2); have B2 := Lib.hid (hE2.blk B1.out)
  clear hE2
  cases pb with
  | false =>
    have HR : Hid (depsB ars ps = []) := Lib.hid (by unfold depsB; rw [HPB.out]; rfl)
    go_wp2
    go_ret
    refine ⟨⟨_, rfl, ?_⟩, E2.out.alloc _⟩
    rw [HR.out]
    exact World.ownsRow_made w2 #[] 0 (by have := E2.out.size_le; omega) (Nat.zero_le _) rfl
  | true =>
    obtain ⟨y0, y1, -, -⟩ := blk2 B2.out
    go_wp2_with (fail)
    refine (l6Deps_any _ ars ps _ (HP.out.ext E2.out) HPB.out).mono ?_
    rintro e w3 ⟨⟨v3, rfl, hd⟩, hE3⟩
    have HD := Lib.hid (hd.weak E2.out.size_le); have E3 := Lib.hid (E2.out.trans hE3)
    clear hd hE3 y0 y1
    go_wp2
    go_ret
    exact ⟨⟨_, rfl, HD.out⟩, E3.out⟩
end Go.Proofs.YtbcjllanigmioaaGreat
namespace Go.Proofs.YtbcjllanigmioaaGreat
open Go.RowKit Go.Maps
theorem lv_get {M : Nat} {ds : List D3} {i : Nat} (h : i < M) : ∃ a, (lvF M ds)[i]? = some a := get_some (by rw [lvF_len]; exact h)
theorem step_take {ds : List D3} {k : Nat} {d : D3} (M : Nat) (h : ds[k]? = some d) : lvF M (ds.take (k + 1)) = lvStep (lvF M (ds.take k)) d := by rw [take_next h, lvF_next]
set_option linter.unusedVariables false in
set_option linter.unusedSimpArgs false in
set_option maxRecDepth 100000 in
set_option maxHeartbeats 4000000 in
theorem l7Levels_any (v : Value) (ars : List Arr) (ps : List Pt) (w : World) (hp : PrR w v ars ps) (hb : progB ars ps = true) :
    Calls Tryz.prog 79 #[v] w fun e w' => (∃ v', e = .returned v' ∧ IntsOwn w.heap.size w' v' (lvF (cntB ars ps) (depsB ars ps))) ∧ Ext w w' := by
  obtain ⟨qa, ca, qp, cp, rfl, hla, hlp, ha, hps⟩ := hp.parts
  obtain ⟨na, hna⟩ : ∃ n, ars.length = n := ⟨_, rfl⟩
  obtain ⟨np, hnp⟩ : ∃ n, ps.length = n := ⟨_, rfl⟩
  obtain ⟨M, hM⟩ : ∃ M, cntB ars ps = M := ⟨_, rfl⟩
  have hM120 := cntB_120 ars ps
  have hMi : (insM ps).length = M := by rw [← hM]; unfold cntB; rw [if_pos hb]
  have hmem : ∀ d ∈ depsB ars ps, d.1 < d.2.1 ∧ d.2.1 < M := fun d hd => by rw [← hM]; exact depsB_mem hd
  have hlen := depsB_len ars ps
  obtain ⟨ds, hds⟩ : ∃ ds, depsB ars ps = ds := ⟨_, rfl⟩
  rw [hna, hnp] at hp ⊢
  rw [hM] at hM120 ⊢
  rw [hds] at hmem hlen ⊢
  obtain ⟨N, hN⟩ : ∃ N, ds.length = N := ⟨_, rfl⟩
  rw [hN] at hlen
  have HP := Lib.hid hp; have HB := Lib.hid hb; have HMI := Lib.hid hMi; have HDS := Lib.hid hds; have HMEM := Lib.hid hmem; have HN := Lib.hid hN
  have hmk := make_intsZ M (by omega)
  have hMN : decide ((M : Int) < 0) = false := by simp
  clear hp ha hps hna hnp hb hM hMi hds hmem hN
  go_enter Tryz.func79, Tryz.ntmps79
  go_wp2_with (fail)
  obtain ⟨W1, hW1⟩ : ∃ W1, w.alloc (.cells #[.slice qa na ca, .slice qp np cp] 32) = W1 := ⟨_, rfl⟩
  have E1 : Hid (Ext w W1) := Lib.hid (by rw [← hW1]; exact (Ext.refl w).alloc _)
  have B1 := Lib.hid (show W1.heap[w.heap.size]? = some (.cells #[.slice qa na ca, .slice qp np cp] 32 (0, 0)) by rw [← hW1]; exact blk_at rfl)
  have HZ1 : Hid (W1.heap.size = w.heap.size + 1) := Lib.hid (by rw [← hW1]; simp)
  try rw [hW1]
  clear hW1
  refine (l4Instances_any _ ars ps _ (HP.out.ext E1.out) HB.out).mono ?_
  rintro e w2 ⟨⟨q, c, rfl, hio⟩, hE2⟩
  rw [HMI.out]
  have E2 := Lib.hid hE2; have B2 := Lib.hid (hE2.blk B1.out)
  obtain ⟨y0, y1, -, -⟩ := blk2 B2.out
  have hgl : w.heap.size < w2.heap.size := lt_of_block B2.out
  clear hio hE2
  go_wp2_with (fail)
  obtain ⟨W3, hW3⟩ : ∃ W3, w2.alloc (.cells (Array.replicate M (Value.int .i64 0)) 3) = W3 := ⟨_, rfl⟩
  have E3 : Hid (Ext W1 W3) := Lib.hid (by rw [← hW3]; exact E2.out.alloc _)
  have L3 : Hid (IntsOwn W1.heap.size W3 (.slice (some ⟨w2.heap.size, 0, none⟩) M M) (lvF M [])) := Lib.hid (by rw [← hW3, ← rep_ints]; exact (made_own w2 M (by omega) _ (by simp)).weak E2.out.size_le)
  have HZ3 : Hid (W3.heap.size = w2.heap.size + 1) := Lib.hid (by rw [← hW3]; simp)
  have HL2 := Lib.hid E2.out.size_le
  try rw [hW3]
  clear hW3 y0 y1 hmk hgl
  refine (l6Deps_any _ ars ps _ (HP.out.ext (E1.out.trans E3.out)) HB.out).mono ?_
  rintro e w4 ⟨⟨v4, rfl, hd⟩, hE4⟩
  rw [HDS.out] at hd
  obtain ⟨q4, c4, rfl⟩ := hd.form
  rw [HN.out] at hd ⊢
  have HD4 := Lib.hid hd; have E4 := Lib.hid (E3.out.trans hE4); have L4 := Lib.hid (L3.out.ext hE4)
  clear hd hE4
  obtain ⟨L, hL⟩ : ∃ L, w2.heap.size = L := ⟨_, rfl⟩
  rw [hL] at HZ3 L4 HL2 ⊢
  clear hL L3
  go_wp2
  go_loopw [5] (fun iv wr => ∃ k : Nat, k ≤ N ∧ iv = .int .i64 k ∧ IntsOwn W1.heap.size wr (.slice (some ⟨L, 0, none⟩) M M) (lvF M (ds.take k)) ∧ DepsOwn W3.heap.size wr (.slice q4 N c4) ds ∧ Ext W1 wr) (fun iv _ => N - (intOf iv).toNat)
  case atStart => exact ⟨0, by omega, rfl, L4.out, HD4.out, E4.out⟩
  case round =>
    obtain ⟨k, hk, rfl, hl, hd, hE⟩ := hrel
    clear L4 HD4
    have HL := Lib.hid hl; have HD := Lib.hid hd; have HE := Lib.hid hE
    clear hl hd hE
    by_cases hlt : k < N
    · obtain ⟨d, hd⟩ := get_some (xs := ds) (k := k) (by rw [HN.out]; exact hlt)
      obtain ⟨hij, hjM⟩ := HMEM.out d (List.mem_of_getElem? hd)
      have hST := step_take M hd
      have hbd := lvF_bd M ds k (by rw [HN.out]; omega)
      obtain ⟨i, j, n⟩ := d
      dsimp only at hij hjM
      obtain ⟨a, ha⟩ := lv_get (M := M) (ds := ds.take k) (show i < M by omega)
      obtain ⟨b, hb⟩ := lv_get (M := M) (ds := ds.take k) hjM
      obtain ⟨a0, a1⟩ := hbd a (List.mem_of_getElem? ha)
      obtain ⟨b0, b1⟩ := hbd b (List.mem_of_getElem? hb)
      obtain ⟨o, rfl, -, hol, d0, d1, d2⟩ := HD.out.elem hd
      have ca := HL.out.cellI ha; have cb := HL.out.cellI hb
      have HA := Lib.hid ha; have HBB := Lib.hid hb; have HST := Lib.hid hST
      have hkI : (k : Int) < (N : Int) := by omega
      have hiI : (i : Int) < (M : Int) := by omega
      have hjI : (j : Int) < (M : Int) := by omega
      have hgL := HL.out.blockB.2
      dsimp only at d0 d1 d2
      clear hd ha hb hST hbd
      go_wp2_with (fail)
      go_region_held3 (fun W => W.cell? ⟨o, k * 3, none⟩ = some (.int .i64 (i : Int)) ∧ W.cell? ⟨o, k * 3 + 1, none⟩ = some (.int .i64 (j : Int)) ∧ W.cell? ⟨L, i, none⟩ = some (.int .i64 a) ∧ W.cell? ⟨L, j, none⟩ = some (.int .i64 b))
        (first | exact ⟨d0, d1, ca, cb⟩ | fail)
        (fail)
      rw [show IntKind.i64.wrap (a + 1) = a + 1 by rw [IntKind.wrap_i64]; omega]
      obtain ⟨wq, hwq⟩ : ∃ wq, wr.drew = wq := ⟨_, rfl⟩
      have EQ : Ext wr wq := by rw [← hwq]; exact (Ext.refl wr).drew
      have HD' := Lib.hid (HD.out.ext EQ); have HL' := Lib.hid (HL.out.ext EQ); have HE' := Lib.hid (HE.out.trans EQ)
      have d0' := EQ.keep d0; have d1' := EQ.keep d1; have ca' := EQ.keep ca; have cb' := EQ.keep cb
      rw [hwq]
      clear hwq EQ d0 d1 d2 ca cb
      by_cases hc : b < a + 1
      · have hcb : decide (b < a + 1) = true := by simpa using hc
        have HN1 : Hid (lvF M (ds.take (k + 1)) = (lvF M (ds.take k)).set j (a + 1)) := Lib.hid (by rw [HST.out, lvStep_set HA.out HBB.out, Int.max_eq_right (by omega)])
        clear hc
        rw [hcb]
        clear hcb
        go_wp2_with (fail)
        go_still_tail 16, (by kernel_rfl)
        change wpList _ _ _ _ _ wq.drew
        obtain ⟨wd, hwd⟩ : ∃ wd, wq.drew = wd := ⟨_, rfl⟩
        have HLd : Hid (IntsOwn W1.heap.size wd (.slice (some ⟨L, 0, none⟩) M M) (lvF M (ds.take k))) := Lib.hid (by rw [← hwd]; exact HL'.out.ext (Ext.refl wq).drew)
        have HDd : Hid (DepsOwn W3.heap.size wd (.slice (some ⟨o, 0, none⟩) N c4) ds) := Lib.hid (by rw [← hwd]; exact HD'.out.ext (Ext.refl wq).drew)
        have HEd : Hid (Ext W1 wd) := Lib.hid (by rw [← hwd]; exact HE'.out.trans (Ext.refl wq).drew)
        rw [hwd]
        clear hwd d0' d1' ca' cb'
        have hfz := HLd.out.frz j
        have cj := HLd.out.cellI HBB.out
        have HL2' : Hid (IntsOwn W1.heap.size (wd.setCell ⟨L, j, none⟩ (.int .i64 (a + 1))) (.slice (some ⟨L, 0, none⟩) M M) (lvF M (ds.take (k + 1)))) := Lib.hid (by rw [HN1.out]; exact HLd.out.store (lvF_len _ _) j (a + 1))
        have HD2' := Lib.hid (HDd.out.setOld (p := ⟨L, j, none⟩) (by show L < _; have := HZ3.out; omega) (.int .i64 (a + 1)))
        have HE2' := Lib.hid (HEd.out.setCell (p := ⟨L, j, none⟩) HL2.out (.int .i64 (a + 1)))
        go_wp2
        go_roundw
        case rel => exact ⟨k + 1, by omega, by go_num, HL2'.out, HD2'.out, HE2'.out⟩
        case measure => simp [intOf]; omega
      · have hcb : decide (b < a + 1) = false := by simpa using hc
        have HN1 : Hid (lvF M (ds.take (k + 1)) = lvF M (ds.take k)) := Lib.hid (by rw [HST.out, lvStep_same HA.out HBB.out (by omega)])
        clear hc d0' d1' ca' cb'
        rw [hcb]
        clear hcb
        go_wp2
        go_roundw
        case rel => exact ⟨k + 1, by omega, by go_num, by rw [HN1.out]; exact HL'.out, HD'.out, HE'.out⟩
        case measure => simp [intOf]; omega
    · obtain rfl : k = N := by omega
      have HR : Hid (IntsOwn W1.heap.size wr (.slice (some ⟨L, 0, none⟩) M M) (lvF M ds)) := Lib.hid (by have h := HL.out; rwa [List.take_of_length_le (by rw [HN.out]; exact Nat.le_refl _)] at h)
      go_wp2
      go_ret
      exact ⟨⟨_, rfl, HR.out.weak E1.out.size_le⟩, E1.out.trans HE.out⟩
def lvB (ars : List Arr) (ps : List Pt) : List Int := lvF (cntB ars ps) (depsB ars ps)
theorem lvB_no {ars : List Arr} {ps : List Pt} (h : progB ars ps = false) : lvB ars ps = [] := by unfold lvB cntB depsB; rw [h]; rfl
theorem lvB_len (ars : List Arr) (ps : List Pt) : (lvB ars ps).length = cntB ars ps := lvF_len _ _
theorem lvStep_le {l : List Int} {d : D3} (hd : d.1 < d.2.1) (h : ∀ (t : Nat) (x : Int), l[t]? = some x → 0 ≤ x ∧ x ≤ (t : Int)) : ∀ (t : Nat) (x : Int), (lvStep l d)[t]? = some x → 0 ≤ x ∧ x ≤ (t : Int) := by
  intro t x hx
  have h1 : ∀ i : Nat, 0 ≤ l.getD i 0 ∧ l.getD i 0 ≤ (i : Int) := fun i => by
    rw [List.getD_eq_getElem?_getD]
    cases e : l[i]? with
    | none => simp
    | some y => exact h i y e
  unfold lvStep at hx
  rw [List.getElem?_set] at hx
  split at hx
  · rename_i e
    subst e
    split at hx
    · cases hx
      have := h1 d.2.1; have := h1 d.1
      omega
    · cases hx
  · exact h t x hx
theorem lvF_le {M : Nat} {ds : List D3} (hd : ∀ d ∈ ds, d.1 < d.2.1) : ∀ (t : Nat) (x : Int), (lvF M ds)[t]? = some x → 0 ≤ x ∧ x ≤ (t : Int) := by
  have H : ∀ (ds : List D3) (l : List Int), (∀ d ∈ ds, d.1 < d.2.1) → (∀ (t : Nat) (x : Int), l[t]? = some x → 0 ≤ x ∧ x ≤ (t : Int)) → ∀ (t : Nat) (x : Int), (ds.foldl lvStep l)[t]? = some x → 0 ≤ x ∧ x ≤ (t : Int) := by
    intro ds
    induction ds with
    | nil => intro l _ h; exact h
    | cons d ds ih => intro l hd h; exact ih _ (fun e he => hd e (by simp [he])) (lvStep_le (hd d (by simp)) h)
  refine H ds _ hd (fun t x h => ?_)
  have := List.mem_of_getElem? h
  simp at this
  omega
theorem lvB_bd (ars : List Arr) (ps : List Pt) : ∀ x ∈ lvB ars ps, 0 ≤ x ∧ x ≤ 119 := fun x hx => by
  obtain ⟨t, ht⟩ := List.mem_iff_getElem?.1 hx
  have h1 := lvF_le (fun d hd => (depsB_mem hd).1) t x ht
  have h2 := (List.getElem?_eq_some_iff.1 ht).1
  have h3 := lvB_len ars ps
  have h4 := cntB_120 ars ps
  omega
set_option linter.unusedVariables false in
set_option maxRecDepth 100000 in
set_option maxHeartbeats 2000000 in
theorem specLevelsOf_any (v : Value) (ars : List Arr) (ps : List Pt) (w : World) (hp : PrR w v ars ps) :
    Calls Tryz.prog 38 #[v] w fun e w' => (∃ v', e = .returned v' ∧ IntsOwn w.heap.size w' v' (lvB ars ps)) ∧ Ext w w' := by
  obtain ⟨qa, ca, qp, cp, rfl, hla, hlp, ha, hps⟩ := hp.parts
  obtain ⟨na, hna⟩ : ∃ n, ars.length = n := ⟨_, rfl⟩
  obtain ⟨np, hnp⟩ : ∃ n, ps.length = n := ⟨_, rfl⟩
  rw [hna, hnp] at hp ⊢
  obtain ⟨pb, hpb⟩ : ∃ a, progB ars ps = a := ⟨_, rfl⟩
  have HP := Lib.hid hp; have HPB := Lib.hid hpb
  clear hp ha hps hna hnp hpb
  go_enter Tryz.func38, Tryz.ntmps38
  go_wp2_with (fail)
  obtain ⟨W1, hW1⟩ : ∃ W1, w.alloc (.cells #[.slice qa na ca, .slice qp np cp] 32) = W1 := ⟨_, rfl⟩
  have E1 : Hid (Ext w W1) := Lib.hid (by rw [← hW1]; exact (Ext.refl w).alloc _)
  have B1 := Lib.hid (show W1.heap[w.heap.size]? = some (.cells #[.slice qa na ca, .slice qp np cp] 32 (0, 0)) by rw [← hW1]; exact blk_at rfl)
  have HSW1 : Hid (W1.heap.size = w.heap.size + 1) := Lib.hid (by rw [← hW1]; simp)
  try rw [hW1]
  clear hW1
  refine (specProgramValid_any _ ars ps _ (HP.out.ext E1.out)).mono ?_
  rw [HPB.out]
  rintro e w2 ⟨rfl, hE2⟩
  have E2 := Lib.hid (E1.out.trans hE2); have B2 := Lib.hid (hE2.blk B1.out)
  clear hE2
  cases pb with
  | false =>
    have HR : Hid (lvB ars ps = []) := Lib.hid (lvB_no HPB.out)
    go_wp2
    go_ret
    refine ⟨⟨_, rfl, ?_⟩, E2.out.alloc _⟩
    rw [HR.out]
    exact World.ownsRow_made w2 #[] 0 (by have := E2.out.size_le; omega) (Nat.zero_le _) rfl
  | true =>
    obtain ⟨y0, y1, -, -⟩ := blk2 B2.out
    go_wp2_with (fail)
    refine (l7Levels_any _ ars ps _ (HP.out.ext E2.out) HPB.out).mono ?_
    rintro e w3 ⟨⟨v3, rfl, hd⟩, hE3⟩
    have HD := Lib.hid (hd.weak E2.out.size_le); have E3 := Lib.hid (E2.out.trans hE3)
    clear hd hE3 y0 y1
    go_wp2
    go_ret
    exact ⟨⟨_, rfl, HD.out⟩, E3.out⟩
set_option linter.unusedVariables false in
set_option maxRecDepth 100000 in
set_option maxHeartbeats 1000000 in
theorem l7Length_any (p : Option Addr) (n c : Nat) (xs : List Int) (w : World) (hn : xs.length = n) (hb : ∀ x ∈ xs, 0 ≤ x ∧ x ≤ 119) (hs : IntsAt w (.slice p n c) xs) :
    Calls Tryz.prog 82 #[.slice p n c] w fun e w' => e = .returned (.int .i64 (lenF xs)) ∧ Ext w w' := by
  obtain ⟨hm, hc⟩ := hs.cl
  have HN := Lib.hid hn; have HC := Lib.hid hc; have HB := Lib.hid hb
  clear hn hc hs hb
  go_enter Tryz.func82, Tryz.ntmps82
  go_wp2
  go_loopw [3, 4] (fun mv i wr => ∃ (k : Nat) (z : Int), k ≤ n ∧ i = .int .i64 k ∧ mv = .int .i64 z ∧ lenF (xs.take k) = z ∧ Ext w wr) (fun _ i _ => n - (intOf i).toNat)
  case atStart => exact ⟨0, 0, by omega, rfl, rfl, rfl, Ext.refl w⟩
  case round =>
    obtain ⟨k, z, hk, rfl, rfl, hz, hE⟩ := hrel
    have hzb := lenF_bd (l := xs.take k) (k := 119) (by omega) (fun x hx => (HB.out x (List.mem_of_mem_take hx)).2)
    rw [hz] at hzb
    have HZ := Lib.hid hz; have HE := Lib.hid hE
    clear hz hE
    by_cases hlt : k < n
    · obtain ⟨y, hy⟩ := get_some (xs := xs) (k := k) (by rw [HN.out]; exact hlt)
      obtain ⟨b, off, rfl, hcell⟩ := HC.out k y hy
      have hcl := HE.out.keep hcell
      obtain ⟨y0, y1⟩ := HB.out y (List.mem_of_getElem? hy)
      have HNX : Hid (lenF (xs.take (k + 1)) = max z (y + 1)) := Lib.hid (by rw [take_next hy, lenF_next, HZ.out])
      clear hy hcell
      by_cases h0 : z < y + 1
      · have hb : decide (z < y + 1) = true := by simpa using h0
        have HM : Hid (lenF (xs.take (k + 1)) = y + 1) := Lib.hid (by rw [HNX.out]; exact Int.max_eq_right (by omega))
        clear h0
        go_wp2
        go_roundw
        case rel => exact ⟨k + 1, y + 1, by omega, by go_num, by go_num, HM.out, HE.out⟩
        case measure => simp [intOf]; omega
      · have hb : decide (z < y + 1) = false := by simpa using h0
        have HM : Hid (lenF (xs.take (k + 1)) = z) := Lib.hid (by rw [HNX.out]; exact Int.max_eq_left (by omega))
        clear h0
        go_wp2
        go_roundw
        case rel => exact ⟨k + 1, z, by omega, by go_num, rfl, HM.out, HE.out⟩
        case measure => simp [intOf]; omega
    · obtain rfl : k = n := by omega
      have HR : Hid (lenF xs = z) := Lib.hid (by have h := HZ.out; rwa [List.take_of_length_le (by rw [HN.out]; exact Nat.le_refl _)] at h)
      go_wp2
      go_ret
      exact ⟨ret_int HR.out.symm, HE.out⟩
def clB (ars : List Arr) (ps : List Pt) : Int := lenF (lvB ars ps)
theorem clB_bd (ars : List Arr) (ps : List Pt) : 0 ≤ clB ars ps ∧ clB ars ps ≤ 120 := lenF_bd (by omega) (fun x hx => (lvB_bd ars ps x hx).2)
end Go.Proofs.YtbcjllanigmioaaGreat
