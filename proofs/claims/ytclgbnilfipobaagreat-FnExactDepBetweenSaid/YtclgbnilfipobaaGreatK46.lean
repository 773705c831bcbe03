/- The texts G27, joined. No statement is proved here. -/
import Derived.Test.YtclgbnilfipobaaGreatK45
/- Dependences between two instances: the program's. No statement is proved here. -/
namespace Go.Proofs.YtclgbnilfipobaaGreat
open Go.RowKit Go.Maps

theorem evs_get {ars : List Arr} {ps : List Pt} {k : Nat} {x : Us} (h : (usesM ars ps)[k]? = some x) : ∃ y : Ev, (evsOf ars ps)[k]? = some y ∧ y.2 = x := by
  rw [usesM_ev, List.getElem?_map, Option.map_eq_some_iff] at h
  obtain ⟨y, h1, h2⟩ := h
  exact ⟨y, h1, h2⟩
def k1of (b1 : Bool) : Int := if b1 then 0 + 1 else 0
def k2of (b1 b2 : Bool) : Int := if b2 then k1of b1 + 2 else k1of b1
def k3of (b1 b2 b3 : Bool) : Int := if b3 then k2of b1 b2 + 4 else k2of b1 b2
theorem k1_mem (b1 : Bool) : k1of b1 ∈ [(0 : Int), 1, 2, 3] := by cases b1 <;> decide
theorem k2_mem (b1 b2 : Bool) : k2of b1 b2 ∈ [(0 : Int), 1, 2, 3] := by cases b1 <;> cases b2 <;> decide
theorem k1_lt (b1 : Bool) : k1of b1 < 2 := by cases b1 <;> decide
theorem k2_lt (b1 b2 : Bool) : k2of b1 b2 < 4 := by cases b1 <;> cases b2 <;> decide
theorem k3_kind (a b : Us) : k3of (decide (a.2 ∈ b.1)) (decide (b.2 ∈ a.1)) (decide (a.2 = b.2)) = kindB a b := by
  unfold kindB
  by_cases h1 : a.2 ∈ b.1 <;> by_cases h2 : b.2 ∈ a.1 <;> by_cases h3 : a.2 = b.2
  all_goals (first | rw [decide_eq_true h1, if_pos h1] | rw [decide_eq_false h1, if_neg h1])
  all_goals (first | rw [decide_eq_true h2, if_pos h2] | rw [decide_eq_false h2, if_neg h2])
  all_goals (first | rw [decide_eq_true h3, if_pos h3] | rw [decide_eq_false h3, if_neg h3])
  all_goals rfl

set_option linter.unusedVariables false in
set_option maxRecDepth 100000 in
set_option maxHeartbeats 2000000 in
theorem dependsOn_any (ib jb ia ja : Int) (qb qa rb ra : Option Addr) (lb cb la ca nb kb na ka : Nat) (a b : Us) (w : World) (hb : b.1.length = nb) (ha : a.1.length = na) (hrb : IntsAt w (.slice rb nb kb) b.1) (hra : IntsAt w (.slice ra na ka) a.1) :
    Calls Tryz.prog 91 #[.agg #[.int .i64 ib, .int .i64 jb, .slice qb lb cb, .slice rb nb kb, .int .i64 b.2], .agg #[.int .i64 ia, .int .i64 ja, .slice qa la ca, .slice ra na ka, .int .i64 a.2]] w fun e w' => e = .returned (.int .i64 (kindB a b)) ∧ Ext w w' := by
  have HA := Lib.hid ha; have HB := Lib.hid hb; have HRA := Lib.hid hra; have HRB := Lib.hid hrb
  have HK := Lib.hid (k3_kind a b)
  obtain ⟨xa, wa⟩ := a
  obtain ⟨xb, wb⟩ := b
  dsimp only at *
  obtain ⟨ans, hans⟩ : ∃ z, kindB (xa, wa) (xb, wb) = z := ⟨_, rfl⟩
  rw [hans] at HK ⊢
  clear ha hb hra hrb hans
  go_enter Tryz.func91, Tryz.ntmps91
  go_wp2_with (fail)
  obtain ⟨W0, hW0⟩ : ∃ W0, ((w.alloc (.cells #[.int .i64 ib, .int .i64 jb, .slice qb lb cb, .slice rb nb kb, .int .i64 wb] 125)).alloc (.cells #[.int .i64 ia, .int .i64 ja, .slice qa la ca, .slice ra na ka, .int .i64 wa] 125)) = W0 := ⟨_, rfl⟩
  have E0 : Hid (Ext w W0) := Lib.hid (by rw [← hW0]; exact ((Ext.refl w).alloc _).alloc _)
  have A0 := Lib.hid (show W0.heap[w.heap.size]? = some (.cells #[.int .i64 ib, .int .i64 jb, .slice qb lb cb, .slice rb nb kb, .int .i64 wb] 125 (0, 0)) by rw [← hW0]; exact blk_old (blk_at rfl))
  have A1 := Lib.hid (show W0.heap[w.heap.size + 1]? = some (.cells #[.int .i64 ia, .int .i64 ja, .slice qa la ca, .slice ra na ka, .int .i64 wa] 125 (0, 0)) by rw [← hW0]; exact blk_at (by simp))
  try rw [hW0]
  clear hW0
  refine (contains_any rb nb kb xb wa _ HB.out (HRB.out.ext E0.out)).mono ?_
  rintro e w1 ⟨rfl, hE1⟩
  have E1 := Lib.hid (E0.out.trans hE1); have B0 := Lib.hid (hE1.blk A0.out); have B1 := Lib.hid (hE1.blk A1.out)
  obtain ⟨b1, hb1⟩ : ∃ b1, decide (wa ∈ xb) = b1 := ⟨_, rfl⟩
  rw [hb1]
  rw [hb1] at HK
  clear hE1 hb1
  go_wp2_with (fail)
  refine (kindsWith_any 0 1 (k1of b1) b1 _ (by decide) (by decide) rfl (by decide)).mono ?_
  rintro e w1' ⟨rfl, rfl⟩
  have h1m := Lib.hid (k1_mem b1); have h1l := Lib.hid (k1_lt b1)
  obtain ⟨k1, hk1⟩ : ∃ k1, k1of b1 = k1 := ⟨_, rfl⟩
  rw [hk1] at h1m h1l
  rw [hk1]
  have HK1 := Lib.hid hk1
  clear hk1
  obtain ⟨y0, y1, y2, y3, y4, -⟩ := blk5e B0.out
  obtain ⟨z0, z1, z2, z3, z4, -⟩ := blk5e B1.out
  go_wp2_with (fail)
  refine (contains_any ra na ka xa wb _ HA.out (HRA.out.ext E1.out)).mono ?_
  rintro e w2 ⟨rfl, hE2⟩
  have E2 := Lib.hid (E1.out.trans hE2); have D0 := Lib.hid (hE2.blk B0.out); have D1 := Lib.hid (hE2.blk B1.out)
  obtain ⟨b2, hb2⟩ : ∃ b2, decide (wb ∈ xa) = b2 := ⟨_, rfl⟩
  rw [hb2]
  rw [hb2] at HK
  clear hE2 hb2 y0 y1 y2 y3 y4 z0 z1 z2 z3 z4
  go_wp2_with (fail)
  refine (kindsWith_any k1 2 (k2of b1 b2) b2 _ h1m.out (by decide) (by rw [← HK1.out]; rfl) h1l.out).mono ?_
  rintro e w2' ⟨rfl, rfl⟩
  have h2m := Lib.hid (k2_mem b1 b2); have h2l := Lib.hid (k2_lt b1 b2)
  obtain ⟨k2, hk2⟩ : ∃ k2, k2of b1 b2 = k2 := ⟨_, rfl⟩
  rw [hk2] at h2m h2l
  rw [hk2]
  have HK2 := Lib.hid hk2
  clear hk2
  obtain ⟨y0, y1, y2, y3, y4, -⟩ := blk5e D0.out
  obtain ⟨z0, z1, z2, z3, z4, -⟩ := blk5e D1.out
  by_cases h3 : wa = wb
  · have hb4 : (wa == wb) = true := by simpa using h3
    have HK3 : Hid (k3of b1 b2 true = ans) := Lib.hid (by have h := HK.out; rw [decide_eq_true h3] at h; exact h)
    clear h3 HK
    go_wp2_with (fail)
    refine (kindsWith_any k2 4 (k3of b1 b2 true) true _ h2m.out (by decide) (by rw [← HK2.out]; simp [k3of]) h2l.out).mono ?_
    rintro e w3 ⟨rfl, rfl⟩
    rw [HK3.out]
    go_wp2
    go_ret
    exact ⟨rfl, E2.out⟩
  · have hb4 : (wa == wb) = false := by simpa using h3
    have HK3 : Hid (k3of b1 b2 false = ans) := Lib.hid (by have h := HK.out; rw [decide_eq_false h3] at h; exact h)
    clear h3 HK
    go_wp2_with (fail)
    refine (kindsWith_any k2 4 (k3of b1 b2 false) false _ h2m.out (by decide) (by rw [← HK2.out]; simp [k3of]) h2l.out).mono ?_
    rintro e w3 ⟨rfl, rfl⟩
    rw [HK3.out]
    go_wp2
    go_ret
    exact ⟨rfl, E2.out⟩

set_option linter.unusedVariables false in
set_option linter.unusedSimpArgs false in
set_option maxRecDepth 100000 in
set_option maxHeartbeats 2000000 in
theorem DepBetween_any (v : Value) (ars : List Arr) (ps : List Pt) (a b : Int) (w : World) (hp : PrR w v ars ps) :
    Calls Tryz.prog 52 #[v, .int .i64 a, .int .i64 b] w fun e w' => e = .returned (.int .i64 (depB ars ps a b)) ∧ Ext w w' := by
  obtain ⟨qa, ca, qp, cp, rfl, -, -, ha, hps⟩ := hp.parts
  have HA := Lib.hid ha; have HPS := Lib.hid hps
  obtain ⟨ans, hans⟩ : ∃ z, depB ars ps a b = z := ⟨_, rfl⟩
  rw [hans]
  obtain ⟨pb, hpb⟩ : ∃ z, progB ars ps = z := ⟨_, rfl⟩
  have HANS := Lib.hid hans; have HPB := Lib.hid hpb
  clear hp ha hps hans hpb
  go_enter Tryz.func52, Tryz.ntmps52
  go_wp2_with (fail)
  refine (programOf_any qa qp _ ca _ cp ars ps _ rfl rfl (HA.out.ext ((Ext.refl w).alloc _)) (HPS.out.ext ((Ext.refl w).alloc _))).mono ?_
  rw [HPB.out]
  rintro e w1 ⟨⟨v, rfl, h0, h1⟩, hE⟩
  have HE := Lib.hid (((Ext.refl w).alloc _).trans hE)
  clear hE
  have hform : ∃ mo T q1 n1 c1 q2 M c2, v = .agg #[.map mo, .int .i64 T, .slice q1 n1 c1, .slice q2 M c2] ∧ (pb = false → M = 0) ∧ (pb = true → M = (usesM ars ps).length ∧ EvsOwn (w.alloc (.cells #[.slice qa ars.length ca, .slice qp ps.length cp] 31)).heap.size w1 (.slice q2 M c2) (evsOf ars ps)) := by
    cases pb with
    | false => exact ⟨_, _, _, _, _, _, _, _, h0 rfl, fun _ => rfl, fun h => (by cases h)⟩
    | true =>
      obtain ⟨Bm, D, q1, c1, q2, c2, rfl, -, -, -, -, he⟩ := h1 rfl
      exact ⟨_, _, _, _, _, _, _, _, rfl, fun h => (by cases h), fun _ => ⟨by rw [usesM_ev, List.length_map], he⟩⟩
  obtain ⟨mo, T, q1, n1, c1, q2, M, c2, rfl, hM0, hM1⟩ := hform
  have HM0 := Lib.hid hM0; have HM1 := Lib.hid hM1
  clear h0 h1 hM0 hM1
  obtain ⟨w2, hw2⟩ : ∃ w2, w1.alloc (.cells #[.map mo, .int .i64 T, .slice q1 n1 c1, .slice q2 M c2] 91) = w2 := ⟨_, rfl⟩
  have E2 : Hid (Ext w w2) := Lib.hid (by rw [← hw2]; exact HE.out.alloc _)
  have E12 : Hid (Ext w1 w2) := Lib.hid (by rw [← hw2]; exact (Ext.refl w1).alloc _)
  have B2 := Lib.hid (show w2.heap[w1.heap.size]? = some (.cells #[.map mo, .int .i64 T, .slice q1 n1 c1, .slice q2 M c2] 91 (0, 0)) by rw [← hw2]; exact blk_at rfl)
  have HW2 := Lib.hid hw2
  clear hw2
  have no : ¬ (progB ars ps = true ∧ 0 ≤ a ∧ a < b ∧ b < ((usesM ars ps).length : Int)) → ans = 0 := fun h => by rw [← HANS.out]; exact depB_no h
  have hMi : (M : Int) ≤ b → ans = 0 := fun h => no (fun h2 => by
    have h3 : pb = true := by rw [← HPB.out]; exact h2.1
    have := (HM1.out h3).1
    omega)
  by_cases h0 : a < 0
  · have hb : decide (a < 0) = true := by simpa using h0
    have HR : Hid (ans = 0) := Lib.hid (no (fun h => by omega))
    clear no hMi
    go_wp2
    go_ret
    exact ⟨ret_int HR.out.symm, by rw [HW2.out]; exact E2.out⟩
  · have hb : decide (a < 0) = false := by simpa using h0
    by_cases h1 : b ≤ a
    · have hb1 : decide (b ≤ a) = true := by simpa using h1
      have HR : Hid (ans = 0) := Lib.hid (no (fun h => by omega))
      clear no hMi
      go_wp2
      go_ret
      exact ⟨ret_int HR.out.symm, by rw [HW2.out]; exact E2.out⟩
    · have hb1 : decide (b ≤ a) = false := by simpa using h1
      by_cases h2 : (M : Int) ≤ b
      · have hb2 : decide ((M : Int) ≤ b) = true := by simpa using h2
        have HR : Hid (ans = 0) := Lib.hid (hMi h2)
        clear no hMi
        go_wp2
        go_ret
        exact ⟨ret_int HR.out.symm, by rw [HW2.out]; exact E2.out⟩
      · have hb2 : decide ((M : Int) ≤ b) = false := by simpa using h2
        obtain ⟨i, rfl⟩ : ∃ i : Nat, a = i := ⟨a.toNat, by omega⟩
        obtain ⟨j, rfl⟩ : ∃ j : Nat, b = j := ⟨b.toNat, by omega⟩
        have hpt : pb = true := by
          cases hpb2 : pb with
          | true => rfl
          | false => have := HM0.out hpb2; omega
        obtain ⟨hMe, hev⟩ := HM1.out hpt
        obtain ⟨x, hx⟩ := get_some (xs := usesM ars ps) (k := i) (by omega)
        obtain ⟨y, hy⟩ := get_some (xs := usesM ars ps) (k := j) (by omega)
        obtain ⟨ex, hex, hxe⟩ := evs_get hx
        obtain ⟨ey, hey, hye⟩ := evs_get hy
        have hev2 := hev.ext E12.out
        obtain ⟨o, gx, dx, r, rk, rfl, hol, x0, x1, x2, x3, x4, -, hrx⟩ := hev2.elem hex
        obtain ⟨o', gy, dy, s, sk, ho', -, z0, z1, z2, z3, z4, -, hry⟩ := hev2.elem hey
        obtain rfl : o = o' := by cases ho'; rfl
        subst hxe hye
        have HR : Hid (kindB ex.2 ey.2 = ans) := Lib.hid (by rw [← HANS.out]; exact (depB_yes (by rw [HPB.out, hpt]) (by omega) hx hy).symm)
        obtain ⟨lx, hlx⟩ : ∃ n, ex.2.1.length = n := ⟨_, rfl⟩
        obtain ⟨ly, hly⟩ : ∃ n, ey.2.1.length = n := ⟨_, rfl⟩
        rw [hlx] at x3 hrx; rw [hly] at z3 hry
        have HX := Lib.hid hrx; have HY := Lib.hid hry; have HLX := Lib.hid hlx; have HLY := Lib.hid hly
        have hb3 : decide (j ≤ i) = false := by simp; omega
        have hb4 : decide (M ≤ j) = false := by simp; omega
        have hiI : (i : Int) < (M : Int) := by omega
        have hjI : (j : Int) < (M : Int) := by omega
        obtain ⟨p0, p1, p2, p3, -⟩ := blk4f B2.out
        obtain ⟨px, hpx⟩ : ∃ n, ex.1.2.2.length = n := ⟨_, rfl⟩
        obtain ⟨py, hpy⟩ : ∃ n, ey.1.2.2.length = n := ⟨_, rfl⟩
        rw [hpx] at x2; rw [hpy] at z2
        clear hx hy hex hey hrx hry hlx hly ho' h0 h1 h2 hev hev2 no hMi hpx hpy hMe hpt
        go_wp2_with (fail)
        rw [HW2.out]
        go_region_held3 (fun W => W.cell? ⟨w1.heap.size, 3, none⟩ = some (.slice (some ⟨o, 0, none⟩) M c2) ∧ W.cell? ⟨o, i * 5, none⟩ = some (.int .i64 (ex.1.1 : Int)) ∧ W.cell? ⟨o, i * 5 + 1, none⟩ = some (.int .i64 (ex.1.2.1 : Int)) ∧ W.cell? ⟨o, i * 5 + 2, none⟩ = some (.slice (some ⟨gx, 0, none⟩) px dx) ∧ W.cell? ⟨o, i * 5 + 3, none⟩ = some (.slice r lx rk) ∧ W.cell? ⟨o, i * 5 + 4, none⟩ = some (.int .i64 ex.2.2) ∧
            W.cell? ⟨o, j * 5, none⟩ = some (.int .i64 (ey.1.1 : Int)) ∧ W.cell? ⟨o, j * 5 + 1, none⟩ = some (.int .i64 (ey.1.2.1 : Int)) ∧ W.cell? ⟨o, j * 5 + 2, none⟩ = some (.slice (some ⟨gy, 0, none⟩) py dy) ∧ W.cell? ⟨o, j * 5 + 3, none⟩ = some (.slice s ly sk) ∧ W.cell? ⟨o, j * 5 + 4, none⟩ = some (.int .i64 ey.2.2))
          (first | exact ⟨p3, x0, x1, x2, x3, x4, z0, z1, z2, z3, z4⟩ | exact ⟨g3.keep p3, g3.keep x0, g3.keep x1, g3.keep x2, g3.keep x3, g3.keep x4, g3.keep z0, g3.keep z1, g3.keep z2, g3.keep z3, g3.keep z4⟩ | fail)
          (first | (go_at_call 91; (with_reducible refine (dependsOn_any _ _ _ _ _ _ s r _ _ _ _ ly sk lx rk ex.2 ey.2 _ HLY.out HLX.out (IntsAt.ext (IntsOwn.at HY.out) (Ext.refl w2).drew) (IntsAt.ext (IntsOwn.at HX.out) (Ext.refl w2).drew)).mono ?_); rw [HR.out]; rintro e w3 ⟨rfl, hE3⟩; have g3 := (Ext.refl w2).drew.trans hE3) | fail)
        have E3 := Lib.hid (E2.out.trans g3)
        clear g3 x0 x1 x2 x3 x4 z0 z1 z2 z3 z4 p0 p1 p2 p3
        go_wp2
        go_ret
        exact ⟨rfl, E3.out⟩
end Go.Proofs.YtclgbnilfipobaaGreat
