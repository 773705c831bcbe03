/- The texts G34 G38 G40, joined. No statement is proved here. -/
import Derived.Test.YtbcjllanigmioaaGreatK42
import Derived.Test.YtbcjllanigmioaaGreatK39
import Derived.Test.YtbcjllanigmioaaGreatK48
import Derived.StillTailTactics
/- What a program writes, in ascending order: the model's l5Flagged and WrittenCells. No statement is proved here. -/
namespace Go.Proofs.YtbcjllanigmioaaGreat
open Go.RowKit Go.Maps

theorem InssOwn.setOld {B : Nat} {w : World} {v : Value} {l : List In3} (h : InssOwn B w v l) {p : Addr} (hp : p.block < B) (u : Value) : InssOwn B (w.setCell p u) v l := by
  obtain ⟨vs, ho, he⟩ := h
  refine ⟨vs, ownsRow_setCell_below ho hp u, fun i x hi => ?_⟩
  obtain ⟨u0, u1, u2, a0, a1, a2, b0, b1, b2⟩ := he i x hi
  exact ⟨u0, u1, u2, a0, a1, a2, b0, b1, b2.setOld hp u⟩
end Go.Proofs.YtbcjllanigmioaaGreat

/- The model's l6Deps and Dependences. No statement is proved here. -/
namespace Go.Proofs.YtbcjllanigmioaaGreat
open Go.RowKit Go.Maps

set_option linter.unusedVariables false in
set_option linter.unusedSimpArgs false in
set_option maxRecDepth 100000 in
set_option maxHeartbeats 4000000 in
theorem l6Deps_any (v : Value) (ars : List Arr) (ps : List Pt) (w : World) (hp : PrR w v ars ps) (hb : progB ars ps = true) :
    Calls Tryz.prog 72 #[v] w fun e w' => (∃ v', e = .returned v' ∧ DepsOwn w.heap.size w' v' (depsB ars ps)) ∧ Ext w w' := by
  obtain ⟨j0, hj0, hj1, hj2, hj3⟩ := info_parts infoDep
  obtain ⟨qa, ca, qp, cp, rfl, hla, hlp, ha, hps⟩ := hp.parts
  obtain ⟨na, hna⟩ : ∃ n, ars.length = n := ⟨_, rfl⟩
  obtain ⟨np, hnp⟩ : ∃ n, ps.length = n := ⟨_, rfl⟩
  have hM120 := insM_120 hb
  obtain ⟨M, hM⟩ : ∃ M, (insM ps).length = M := ⟨_, rfl⟩
  obtain ⟨K, hK⟩ : ∃ K, kOf (usesM ars ps) = K := ⟨_, rfl⟩
  have hdb : depsB ars ps = depsTo K M M := by unfold depsB; rw [if_pos hb, hM, hK]
  rw [hM] at hM120
  rw [hna, hnp] at hp ⊢
  rw [hdb]
  have HP := Lib.hid hp; have HB := Lib.hid hb; have HM := Lib.hid hM; have HK := Lib.hid hK
  have HUM : Hid ((usesM ars ps).length = M) := Lib.hid (by rw [usesM_len, hM])
  clear hp ha hps hna hnp hb hM hK hdb
  go_enter Tryz.func72, Tryz.ntmps72
  go_wp2_with (fail)
  obtain ⟨W1, hW1⟩ : ∃ W1, w.alloc (.cells #[.slice qa na ca, .slice qp np cp] 32) = W1 := ⟨_, rfl⟩
  have E1 : Hid (Ext w W1) := Lib.hid (by rw [← hW1]; exact (Ext.refl w).alloc _)
  have HZ1 : Hid (W1.heap.size = w.heap.size + 1) := Lib.hid (by rw [← hW1]; simp)
  obtain ⟨W2, hW2⟩ : ∃ W2, W1.alloc (.cells #[] 51) = W2 := ⟨_, rfl⟩
  have HI0 : Hid (DepsOwn (w.heap.size + 1) W2 (.slice (some ⟨w.heap.size + 1, 0, none⟩) 0 0) []) := Lib.hid (by have h := World.ownsRow_made (e := 51) (size := 3) W1 #[] 0 (Nat.le_refl _) (Nat.zero_le _) rfl; rw [HZ1.out, hW2] at h; exact h)
  have E2 := Lib.hid (show Ext W1 W2 by rw [← hW2]; exact (Ext.refl W1).alloc _)
  try rw [hW1]
  try rw [hW2]
  clear hW1 hW2
  refine (l6Uses_any _ ars ps _ (HP.out.ext (E1.out.trans E2.out)) HB.out).mono ?_
  rintro e w3 ⟨⟨q, c, rfl, hu⟩, hE3⟩
  rw [HM.out] at hu ⊢
  have HU := Lib.hid hu; have E3 := Lib.hid (E2.out.trans hE3); have HD3 := Lib.hid (HI0.out.ext hE3)
  clear hE3 hu
  go_wp2
  go_loopw [3, 5] (fun ov iv wr => ∃ (i : Nat) (q0 : Option Addr) (m c0 : Nat), i ≤ M ∧ iv = .int .i64 i ∧ ov = .slice q0 m c0 ∧ (depsTo K M i).length = m ∧ DepsOwn (w.heap.size + 1) wr (.slice q0 m c0) (depsTo K M i) ∧ UsesOwn W2.heap.size wr (.slice q M c) (usesM ars ps) ∧ Ext W1 wr) (fun _ iv _ => M - (intOf iv).toNat)
  case atStart => exact ⟨0, _, 0, _, by omega, rfl, rfl, rfl, HD3.out, HU.out, E3.out⟩
  case round =>
    obtain ⟨i, q0, m, c0, hi, rfl, rfl, hm, hd, hu, hE⟩ := hrel
    clear HD3 HU
    have HMM := Lib.hid hm; have HD := Lib.hid hd; have HU := Lib.hid hu; have HE := Lib.hid hE
    clear hm hd hu hE
    by_cases hiM : i < M
    · have HA : Hid ((depsTo K M i ++ rowTo K i (i + 1)).length = m) := Lib.hid (by rw [rowTo_start K i _ (Nat.le_refl _), List.append_nil]; exact HMM.out)
      have HD1 : Hid (DepsOwn (w.heap.size + 1) wr (.slice q0 m c0) (depsTo K M i ++ rowTo K i (i + 1))) := Lib.hid (by rw [rowTo_start K i _ (Nat.le_refl _), List.append_nil]; exact HD.out)
      go_wp2
      go_loopw [3, 6] (fun ov kv wr => ∃ (k : Nat) (q0 : Option Addr) (m c0 : Nat), i + 1 ≤ k ∧ k ≤ M ∧ kv = .int .i64 k ∧ ov = .slice q0 m c0 ∧ (depsTo K M i ++ rowTo K i k).length = m ∧ DepsOwn (w.heap.size + 1) wr (.slice q0 m c0) (depsTo K M i ++ rowTo K i k) ∧ UsesOwn W2.heap.size wr (.slice q M c) (usesM ars ps) ∧ Ext W1 wr) (fun _ kv _ => M - (intOf kv).toNat)
      case atStart => exact ⟨i + 1, _, m, _, by omega, by omega, by go_num, rfl, HA.out, HD1.out, HU.out, HE.out⟩
      case round =>
        obtain ⟨k, q0, m, c0, hik, hk, rfl, rfl, hm, hd, hu, hE⟩ := hrel
        clear HD HD1 HU HE HMM HA
        have hmb : m ≤ 14520 := by
          have h1 := depsTo_len K M i
          have h2 := rowTo_len K i k
          have h3 : i * M ≤ 120 * 120 := Nat.mul_le_mul (by omega) (by omega)
          rw [List.length_append] at hm
          omega
        have HMM := Lib.hid hm; have HD := Lib.hid hd; have HU := Lib.hid hu; have HE := Lib.hid hE
        clear hm hd hu hE
        by_cases hkM : k < M
        · obtain ⟨x, hx⟩ := get_some (xs := usesM ars ps) (k := i) (by rw [HUM.out]; exact hiM)
          obtain ⟨y, hy⟩ := get_some (xs := usesM ars ps) (k := k) (by rw [HUM.out]; exact hkM)
          obtain ⟨o, r, rk, rfl, hol, x0, x1, hrx⟩ := HU.out.elem hx
          obtain ⟨o', s, sk, ho', -, z0, z1, hry⟩ := HU.out.elem hy
          obtain rfl : o = o' := by cases ho'; rfl
          obtain ⟨kk, hkk⟩ : ∃ z, K i k = z := ⟨_, rfl⟩
          have HR : Hid (kindB x y = kk) := Lib.hid (by rw [← hkk, ← HK.out]; exact (kOf_is hx hy).symm)
          have hkb := kind_bd x y
          rw [HR.out] at hkb
          obtain ⟨lx, hlx⟩ : ∃ n, x.1.length = n := ⟨_, rfl⟩
          obtain ⟨ly, hly⟩ : ∃ n, y.1.length = n := ⟨_, rfl⟩
          rw [hlx] at x0 hrx; rw [hly] at z0 hry
          have HX := Lib.hid hrx; have HY := Lib.hid hry; have HLX := Lib.hid hlx; have HLY := Lib.hid hly; have HKK := Lib.hid hkk
          have hiI : (i : Int) < (M : Int) := by omega
          have hkI : (k : Int) < (M : Int) := by omega
          clear hx hy hrx hry hlx hly ho' hkk
          go_wp2_with (fail)
          go_region_held3 (fun W => W.cell? ⟨o, i * 2, none⟩ = some (.slice r lx rk) ∧ W.cell? ⟨o, i * 2 + 1, none⟩ = some (.int .i64 x.2) ∧ W.cell? ⟨o, k * 2, none⟩ = some (.slice s ly sk) ∧ W.cell? ⟨o, k * 2 + 1, none⟩ = some (.int .i64 y.2))
            (first | exact ⟨x0, x1, z0, z1⟩ | exact ⟨g3.keep x0, g3.keep x1, g3.keep z0, g3.keep z1⟩ | fail)
            (first | (go_at_call 113; (with_reducible refine (l6Kinds_any r s lx ly rk sk x y _ HLX.out HLY.out (IntsAt.ext (IntsOwn.at HX.out) (Ext.refl wr).drew) (IntsAt.ext (IntsOwn.at HY.out) (Ext.refl wr).drew)).mono ?_); rw [HR.out]; rintro e w4 ⟨rfl, hE4⟩; have g3 := (Ext.refl wr).drew.trans hE4) | fail)
          have E4 := Lib.hid (HE.out.trans g3); have HD4 := Lib.hid (HD.out.ext g3); have HU4 := Lib.hid (HU.out.ext g3)
          clear g3 x0 x1 z0 z1
          by_cases hk0 : kk = 0
          · have hb : (kk != 0) = false := by simp [hk0]
            have HN : Hid (depsTo K M i ++ rowTo K i (k + 1) = depsTo K M i ++ rowTo K i k) := Lib.hid (by rw [rowTo_next, depAt_no (by rw [HKK.out]; exact hk0), List.append_nil])
            clear hk0
            go_wp2
            go_roundw
            case rel => exact ⟨k + 1, _, m, _, by omega, by omega, by go_num, rfl, by rw [HN.out]; exact HMM.out, by rw [HN.out]; exact HD4.out, HU4.out, E4.out⟩
            case measure => simp [intOf]; omega
          · have hb : (kk != 0) = true := by simp [hk0]
            have HN : Hid (depsTo K M i ++ rowTo K i (k + 1) = (depsTo K M i ++ rowTo K i k) ++ [(i, k, kk)]) := Lib.hid (by rw [rowTo_next, depAt_yes (by omega) (by rw [HKK.out]; exact hk0), HKK.out, List.append_assoc])
            obtain ⟨L, hL⟩ : ∃ L, depsTo K M i ++ rowTo K i k = L := ⟨_, rfl⟩
            rw [hL] at HMM HD4 HN
            have HD5 := Lib.hid (HD4.out.ext ((Ext.refl w4).alloc (.cells #[.int .i64 (i : Int), .int .i64 (k : Int), .int .i64 kk] 51)))
            have ho := HD5.out
            unfold DepsOwn at ho
            rw [HMM.out] at ho
            have htag := own_tag ho
            have hs5 : w.heap.size + 1 ≤ w4.heap.size := by have := E4.out.size_le; have := HZ1.out; omega
            clear hk0 hL
            go_wp2_with (at_builtin; refine wpList_append_own_at _ rfl (.tmp 36) (.tmp 41) 42 rfl (w.heap.size + 1) 51 j0 (.agg #[.int .i64 0, .int .i64 0, .int .i64 0]) 3 24 underDep hj0 hj1 hj2 hj3 rfl (by decide) (.slice q0 m c0) m (flatD L) rfl ho ⟨w4.heap.size, 0, none⟩ 1 1 [.int .i64 (i : Int), .int .i64 (k : Int), .int .i64 kk] rfl rfl (tri_cells (by simp)) ?e2 ?e3 ?e4 ?e5 ?_)
            case e2 => intro u hu; simp at hu; rcases hu with rfl | rfl | rfl <;> rfl
            case e3 => unfold maxLen; omega
            case e4 => omega
            case e5 => simp; omega
            intro v2 w6 hown2 hgrow2 hnil2 hat2
            obtain ⟨gq, dq, rfl, hdq⟩ := own_form' hown2 (by first | exact hnil2 | exact fun e => by have := (hnil2.1 e).2; omega)
            have HL1 : Hid ((L ++ [(i, k, kk)]).length = m + 1) := Lib.hid (by rw [List.length_append, HMM.out]; rfl)
            have HRS : Hid (DepsOwn (w.heap.size + 1) w6 (.slice (some ⟨gq, 0, none⟩) (m + 1) dq) (L ++ [(i, k, kk)])) := Lib.hid (by unfold DepsOwn; rw [HL1.out, flatD_snoc]; exact hown2)
            have EW := Lib.hid ((E4.out.alloc (.cells #[.int .i64 (i : Int), .int .i64 (k : Int), .int .i64 kk] 51)).grown hgrow2 (fun b hb => by have := (ho.lt b hb).1; have := HZ1.out; omega))
            have HU6 := Lib.hid (UsesOwn.tag (HU4.out.ext ((Ext.refl w4).alloc (.cells #[.int .i64 (i : Int), .int .i64 (k : Int), .int .i64 kk] 51))) hgrow2 htag (by decide) (by decide))
            clear hown2 hgrow2 hnil2 hat2 ho htag hs5
            go_wp2
            go_roundw
            case rel => exact ⟨k + 1, some ⟨gq, 0, none⟩, m + 1, dq, by omega, by omega, by go_num, rfl, by rw [HN.out]; exact HL1.out, by rw [HN.out]; exact HRS.out, HU6.out, EW.out⟩
            case measure => simp [intOf]; omega
        · obtain rfl : k = M := by omega
          have HN := Lib.hid (depsTo_next K k i)
          go_wp2
          go_roundw
          case rel => exact ⟨i + 1, q0, m, c0, by omega, by go_num, rfl, by rw [HN.out]; exact HMM.out, by rw [HN.out]; exact HD.out, HU.out, HE.out⟩
          case measure => simp [intOf]; omega
    · obtain rfl : i = M := by omega
      go_wp2
      go_ret
      exact ⟨⟨_, rfl, HD.out.weak (Nat.le_succ _)⟩, E1.out.trans HE.out⟩

set_option linter.unusedVariables false in
set_option maxRecDepth 100000 in
set_option maxHeartbeats 2000000 in
theorem specDependences_any (v : Value) (ars : List Arr) (ps : List Pt) (w : World) (hp : PrR w v ars ps) :
    Calls Tryz.prog 30 #[v] w fun e w' => (∃ v', e = .returned v' ∧ DepsOwn w.heap.size w' v' (depsB ars ps)) ∧ Ext w w' := by
  obtain ⟨qa, ca, qp, cp, rfl, hla, hlp, ha, hps⟩ := hp.parts
  obtain ⟨na, hna⟩ : ∃ n, ars.length = n := ⟨_, rfl⟩
  obtain ⟨np, hnp⟩ : ∃ n, ps.length = n := ⟨_, rfl⟩
  rw [hna, hnp] at hp ⊢
  obtain ⟨pb, hpb⟩ : ∃ a, progB ars ps = a := ⟨_, rfl⟩
  have HP := Lib.hid hp; have HPB := Lib.hid hpb
  clear hp ha hps hna hnp hpb
  go_enter Tryz.func30, Tryz.ntmps30
  go_wp2_with (fail)
  obtain ⟨W1, hW1⟩ : ∃ W1, w.alloc (.cells #[.slice qa na ca, .slice qp np cp] 32) = W1 := ⟨_, rfl⟩
  have E1 : Hid (Ext w W1) := Lib.hid (by rw [← hW1]; exact (Ext.refl w).alloc _)
  have B1 := Lib.hid (show W1.heap[w.heap.size]? = some (.cells #[.slice qa na ca, .slice qp np cp] 32 (0, 0)) by rw [← hW1]; exact blk_at rfl)
  try rw [hW1]
  clear hW1
  refine (specProgramValid_any _ ars ps _ (HP.out.ext E1.out)).mono ?_
  rw [HPB.out]
  rintro e w2 ⟨rfl, hE2⟩
  have E2 := Lib.hid (E1.out.trans hE2); have B2 := Lib.hid (hE2.blk B1.out)
  clear hE2
  cases pb with
  | false =>
    have HR : Hid (depsB ars ps = []) := Lib.hid (by unfold depsB; rw [HPB.out]; rfl)
    go_wp2
    go_ret
    refine ⟨⟨_, rfl, ?_⟩, E2.out.alloc _⟩
    rw [HR.out]
    exact World.ownsRow_made w2 #[] 0 (by have := E2.out.size_le; omega) (Nat.zero_le _) rfl
  | true =>
    obtain ⟨y0, y1, -, -⟩ := blk2 B2.out
    go_wp2_with (fail)
    refine (l6Deps_any _ ars ps _ (HP.out.ext E2.out) HPB.out).mono ?_
    rintro e w3 ⟨⟨v3, rfl, hd⟩, hE3⟩
    have HD := Lib.hid (hd.weak E2.out.size_le); have E3 := Lib.hid (E2.out.trans hE3)
    clear hd hE3 y0 y1
    go_wp2
    go_ret
    exact ⟨⟨_, rfl, HD.out⟩, E3.out⟩
end Go.Proofs.YtbcjllanigmioaaGreat

/- The model's levels: l7Levels, LevelsOf, l7Length, CriticalLength, LevelOrder. No statement is proved here. -/
namespace Go.Proofs.YtbcjllanigmioaaGreat
open Go.RowKit Go.Maps

def lvB (ars : List Arr) (ps : List Pt) : List Int := lvF (cntB ars ps) (depsB ars ps)
end Go.Proofs.YtbcjllanigmioaaGreat
