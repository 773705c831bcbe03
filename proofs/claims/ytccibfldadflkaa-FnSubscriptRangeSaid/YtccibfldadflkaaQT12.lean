/- The texts N11, joined. No statement is proved here. -/
import Derived.Test.YtccibfldadflkaaQT11
import Derived.BigQuiet
import Derived.Deep.QuietTactic
/- Contracts: greatest and least values of lists of ints; values of the bounds of a side. | Contracts: the range of a loop at a point. | Contract: the model's range of a loop at a point. | Contracts: LoopRange and PointIn. | Contracts: PointIn and its model. -/
namespace Go.Proofs.Ytccibfldadflkaa
open Go.RowKit

def maxL : List Int → Int
  | [] => 0
  | x :: r => r.foldl (fun a b => if a < b then b else a) x
def minL : List Int → Int
  | [] => 0
  | x :: r => r.foldl (fun a b => if b < a then b else a) x
theorem maxL_next {l : List Int} (h : l ≠ []) (v : Int) : maxL (l ++ [v]) = if maxL l < v then v else maxL l := by
  cases l with
  | nil => exact absurd rfl h
  | cons x r => simp only [maxL, List.cons_append, List.foldl_append, List.foldl_cons, List.foldl_nil]; rfl
theorem minL_next {l : List Int} (h : l ≠ []) (v : Int) : minL (l ++ [v]) = if v < minL l then v else minL l := by
  cases l with
  | nil => exact absurd rfl h
  | cons x r => simp only [minL, List.cons_append, List.foldl_append, List.foldl_cons, List.foldl_nil]; rfl
theorem maxL_take {l : List Int} {k : Nat} {v : Int} (hk : 0 < k) (hv : l[k]? = some v) : maxL (l.take (k + 1)) = if maxL (l.take k) < v then v else maxL (l.take k) := by
  rw [take_next hv, maxL_next]
  intro h
  have h1 := congrArg List.length h
  rw [List.length_take, List.length_nil] at h1
  have h2 := (List.getElem?_eq_some_iff.1 hv).1
  omega
theorem minL_take {l : List Int} {k : Nat} {v : Int} (hk : 0 < k) (hv : l[k]? = some v) : minL (l.take (k + 1)) = if v < minL (l.take k) then v else minL (l.take k) := by
  rw [take_next hv, minL_next]
  intro h
  have h1 := congrArg List.length h
  rw [List.length_take, List.length_nil] at h1
  have h2 := (List.getElem?_eq_some_iff.1 hv).1
  omega
theorem maxL_one {l : List Int} {v : Int} (hv : l[0]? = some v) : maxL (l.take 1) = v := by
  cases l with
  | nil => simp at hv
  | cons x r => simp at hv; simp [maxL, hv]
theorem minL_one {l : List Int} {v : Int} (hv : l[0]? = some v) : minL (l.take 1) = v := by
  cases l with
  | nil => simp at hv
  | cons x r => simp at hv; simp [minL, hv]

set_option maxHeartbeats 1000000 in
theorem slicesMax_any (s : Value) (xs : List Int) (w : World) (hs : IntsAt w s xs) (hne : 0 < xs.length) :
    Calls Try.prog 100 #[s] w fun e w' => e = .returned (.int .i64 (maxL xs)) ∧ w = w' := by
  obtain ⟨p, c, rfl, hm, hc⟩ := hs.get
  generalize hn : xs.length = n at *
  have HN := Lib.hid hn; clear hn
  obtain ⟨x0, hx0⟩ := get_some (xs := xs) (k := 0) (by rw [HN.out]; exact hne)
  obtain ⟨b0, off0, rfl, c0, hb0⟩ := hc 0 x0 hx0
  have HC := Lib.hid hc; have HX0 := Lib.hid hx0; clear hc hx0 hs
  rw [Nat.add_zero] at c0
  go_enter Try.func100, Try.ntmps100
  go_wp2
  go_loop [3, 4] (fun m i => ∃ k : Nat, 1 ≤ k ∧ k ≤ n ∧ i = .int .i64 k ∧ m = .int .i64 (maxL (xs.take k))) (fun _ i => n - (intOf i).toNat)
  case atStart => exact ⟨1, by omega, by omega, rfl, by rw [maxL_one HX0.out]⟩
  case round =>
    obtain ⟨k, hk1, hk, rfl, rfl⟩ := hrel
    by_cases hlt : k < n
    · obtain ⟨x, hx⟩ := get_some (xs := xs) (k := k) (by rw [HN.out]; exact hlt)
      obtain ⟨b, off, e, cx, hb⟩ := HC.out k x hx
      cases e
      have hM := maxL_take (by omega) hx
      have HX := Lib.hid hx; have HM := Lib.hid hM; clear hx hM
      generalize maxL (xs.take k) = m at *
      by_cases hlm : m < x
      · go_wp2
        go_round
        case rel => exact ⟨k + 1, by omega, by omega, by go_num, by rw [HM.out]; simp [hlm]⟩
        case measure => simp [intOf]; omega
      · go_wp2
        go_round
        case rel => exact ⟨k + 1, by omega, by omega, by go_num, by rw [HM.out]; simp [hlm]⟩
        case measure => simp [intOf]; omega
    · have e : k = n := by omega
      subst e
      go_wp2
      go_ret
      exact ⟨ret_int (by rw [List.take_of_length_le (by rw [HN.out]; omega)]), rfl⟩

set_option maxHeartbeats 1000000 in
theorem slicesMin_any (s : Value) (xs : List Int) (w : World) (hs : IntsAt w s xs) (hne : 0 < xs.length) :
    Calls Try.prog 102 #[s] w fun e w' => e = .returned (.int .i64 (minL xs)) ∧ w = w' := by
  obtain ⟨p, c, rfl, hm, hc⟩ := hs.get
  generalize hn : xs.length = n at *
  have HN := Lib.hid hn; clear hn
  obtain ⟨x0, hx0⟩ := get_some (xs := xs) (k := 0) (by rw [HN.out]; exact hne)
  obtain ⟨b0, off0, rfl, c0, hb0⟩ := hc 0 x0 hx0
  have HC := Lib.hid hc; have HX0 := Lib.hid hx0; clear hc hx0 hs
  rw [Nat.add_zero] at c0
  go_enter Try.func102, Try.ntmps102
  go_wp2
  go_loop [3, 4] (fun m i => ∃ k : Nat, 1 ≤ k ∧ k ≤ n ∧ i = .int .i64 k ∧ m = .int .i64 (minL (xs.take k))) (fun _ i => n - (intOf i).toNat)
  case atStart => exact ⟨1, by omega, by omega, rfl, by rw [minL_one HX0.out]⟩
  case round =>
    obtain ⟨k, hk1, hk, rfl, rfl⟩ := hrel
    by_cases hlt : k < n
    · obtain ⟨x, hx⟩ := get_some (xs := xs) (k := k) (by rw [HN.out]; exact hlt)
      obtain ⟨b, off, e, cx, hb⟩ := HC.out k x hx
      cases e
      have hM := minL_take (by omega) hx
      have HX := Lib.hid hx; have HM := Lib.hid hM; clear hx hM
      generalize minL (xs.take k) = m at *
      by_cases hlm : x < m
      · go_wp2
        go_round
        case rel => exact ⟨k + 1, by omega, by omega, by go_num, by rw [HM.out]; simp [hlm]⟩
        case measure => simp [intOf]; omega
      · go_wp2
        go_round
        case rel => exact ⟨k + 1, by omega, by omega, by go_num, by rw [HM.out]; simp [hlm]⟩
        case measure => simp [intOf]; omega
    · have e : k = n := by omega
      subst e
      go_wp2
      go_ret
      exact ⟨ret_int (by rw [List.take_of_length_le (by rw [HN.out]; omega)]), rfl⟩

/-- The value of a bound at a point. -/
def evalA (ps : List Int) (a : Aff) : Int := evalK a.1 ps a.2 ps.length

set_option maxHeartbeats 2000000 in
theorem valuesAt_any (p : Option Addr) (n c : Nat) (zs : List Aff) (s : Value) (ps : List Int) (w : World) (hn : zs.length = n) (hs : AffsAt w (.slice p n c) zs) (ht : IntsAt w s ps) (hv : ∀ a ∈ zs, affValidB a.1 a.2 = true) (hp : ptB ps = true) (h2 : n ≤ 2) :
    Calls Try.prog 101 #[.slice p n c, s] w fun e w' => ∃ q d, e = .returned (.slice q n d) ∧ IntsOwn w.heap.size w' (.slice q n d) (zs.map (evalA ps)) ∧ Ext w w' := by
  obtain ⟨i0, hi, hz0, hz1, hz2⟩ := info_parts infoInt
  have HS := Lib.hid hs; have HT := Lib.hid ht; have HN := Lib.hid hn; have HV := Lib.hid hv; have HP := Lib.hid hp; clear hs ht hn hv hp
  obtain ⟨pq, cq, rfl, hmq, -⟩ := HT.out
  have HVL : Hid ((zs.map (evalA ps)).length = n) := by show _ = n; rw [List.length_map]; exact HN.out
  go_enter Try.func101, Try.ntmps101
  go_wp2_with (fail)
  refine (linears_any p n c zs _ HN.out HS.out HV.out (by omega)).mono ?_
  rintro e W0 ⟨q0, d0, rfl, hL0, hE0⟩
  have HL := Lib.hid hL0; have HE0 := Lib.hid hE0; clear hL0 hE0
  go_wp2
  go_loopw [5, 11] (fun v i wr => ∃ k : Nat, k ≤ n ∧ i = .int .i64 k ∧ wr.ownsRow W0.heap.size 3 1 v k (((zs.map (evalA ps)).take k).map (Value.int .i64)) ∧ Ext W0 wr) (fun _ i _ => n - (intOf i).toNat)
  case atStart => exact ⟨0, by omega, rfl, by simpa using World.ownsRow_nil _ _ _ _, Ext.refl W0⟩
  case round =>
    obtain ⟨k, hk, rfl, hown, hE⟩ := hrel
    by_cases hlt : k < n
    · obtain ⟨x, hx⟩ := get_some (xs := zs) (k := k) (by rw [HN.out]; exact hlt)
      obtain ⟨g, xa, xb, xc, xd, x2, rfl, hva, rfl, hg, e0, e1, e2, e3, e4⟩ := HL.out.get hx
      have hy : (zs.map (evalA ps))[k]? = some (evalA ps ([xa, xb, xc, xd], x2)) := by rw [List.getElem?_map, hx]; rfl
      have c0 := hE.keep e0; have c1 := hE.keep e1; have c2 := hE.keep e2; have c3 := hE.keep e3; have c4 := hE.keep e4
      have HVA := Lib.hid hva; have HY := Lib.hid hy; have HO := Lib.hid hown; have HE := Lib.hid hE; have HEW := Lib.hid (HE0.out.trans hE)
      clear e0 e1 e2 e3 e4 hx hva hy hown hE
      go_wp2_with (fail)
      refine (at_any xa xb xc xd x2 _ ps _ (HT.out.ext (HEW.out.alloc _)) HVA.out HP.out).mono ?_
      rintro e W3 ⟨rfl, hE3⟩
      have g3 := ((Ext.refl wr).alloc _).trans hE3
      have HYE : Hid (evalA ps ([xa, xb, xc, xd], x2) = evalK [xa, xb, xc, xd] ps x2 ps.length) := Lib.hid rfl
      clear hE3 c0 c1 c2 c3 c4
      generalize evalK [xa, xb, xc, xd] ps x2 ps.length = y at *
      have hown3 := ownsRow_ext HO.out g3
      have hbs : W0.heap.size ≤ W3.heap.size := (HE.out.trans g3).size_le
      go_wp2_with (at_builtin; refine wpList_append_own _ rfl (.tmp 15) (.tmp 19) 22 rfl W0.heap.size 3 i0 (.int .i64 0) 1 8 Try.underlying22 hi hz0 hz1 hz2 rfl (by decide) _ k _ rfl (hown3.alloc _) ⟨W3.heap.size, 0, none⟩ 1 1 [.int .i64 y] rfl rfl ?c1 ?c2 ?c3 ?c4 ?c5 ?_)
      case c1 =>
        intro j u hj
        match j, hj with
        | 0, hj => simp at hj; subst hj; simp [Addr.add]
      case c2 => intro u hu; simp at hu; subst hu; rfl
      case c3 => unfold maxLen; omega
      case c4 => omega
      case c5 => simp; omega
      intro v' w5 hown' hgrow _
      have E5 := ((HE.out.trans g3).alloc (.cells #[.int .i64 y] 3)).grown hgrow (fun b hb => (hown3.lt b hb).1)
      have HO5 : Hid (w5.ownsRow W0.heap.size 3 1 v' (k + 1) (((zs.map (evalA ps)).take (k + 1)).map (Value.int .i64))) := by
        show w5.ownsRow _ _ _ _ _ _
        rw [take_next HY.out, List.map_append, List.map_cons, List.map_nil, HYE.out]
        simpa [List.map_take] using hown'
      clear hown' hgrow hown3
      go_wp2
      go_roundw
      case rel => exact ⟨k + 1, by omega, by go_num, HO5.out, E5⟩
      case measure => simp [intOf]; omega
    · have e : k = n := by omega
      subst e
      rw [List.take_of_length_le (by rw [HVL.out]; omega)] at hown
      go_wp2
      go_ret
      rcases hown.2 with ⟨rfl, hn⟩ | ⟨g, cap, cur, rfl, _⟩
      · subst hn
        exact ⟨none, 0, rfl, (IntsOwn.mk hown HVL.out).weak HE0.out.size_le, HE0.out.trans hE⟩
      · exact ⟨_, _, rfl, (IntsOwn.mk hown HVL.out).weak HE0.out.size_le, HE0.out.trans hE⟩
end Go.Proofs.Ytccibfldadflkaa

namespace Go.Proofs.Ytccibfldadflkaa
open Go.RowKit

/-- A side that can be evaluated. -/
def sideOk (zs : List Aff) : Prop := 0 < zs.length ∧ zs.length ≤ 2 ∧ ∀ a ∈ zs, affValidB a.1 a.2 = true
theorem sideOk_of {zs : List Aff} {d : Int} (h : sideB zs d = true) : sideOk zs := by
  simp only [sideB, Bool.and_eq_true, decide_eq_true_eq, List.all_eq_true, boundB] at h
  exact ⟨h.1.1, h.1.2, fun a ha => (h.2 a ha).1⟩
def loV (x : Lp) (ps : List Int) : Int := maxL (x.1.map (evalA ps))
def hiV (x : Lp) (ps : List Int) : Int := minL (x.2.map (evalA ps))

set_option maxHeartbeats 2000000 in
theorem span_any (s t : Value) (x : Lp) (u : Value) (ps : List Int) (w : World) (hs : AffsAt w s x.1) (ht : AffsAt w t x.2) (hu : IntsAt w u ps) (h1 : sideOk x.1) (h2 : sideOk x.2) (hp : ptB ps = true) :
    Calls Try.prog 80 #[.agg #[s, t], u] w fun e w' => e = .returned (.tuple #[.int .i64 (loV x ps), .int .i64 (hiV x ps)]) ∧ Ext w w' := by
  obtain ⟨p, c, rfl, hm⟩ := hs.form
  obtain ⟨q, d, rfl, hm2⟩ := ht.form
  have HS := Lib.hid hs; have HT := Lib.hid ht; have HU := Lib.hid hu; have H1 := Lib.hid h1; have H2 := Lib.hid h2; have HP := Lib.hid hp; clear hs ht hu h1 h2 hp
  obtain ⟨pu, cu, rfl, hmu, -⟩ := HU.out
  have P1 : Hid (0 < x.1.length) := Lib.hid H1.out.1
  have P2 : Hid (x.1.length ≤ 2) := Lib.hid H1.out.2.1
  have P3 : Hid (∀ a ∈ x.1, affValidB a.1 a.2 = true) := Lib.hid H1.out.2.2
  have Q1 : Hid (0 < x.2.length) := Lib.hid H2.out.1
  have Q2 : Hid (x.2.length ≤ 2) := Lib.hid H2.out.2.1
  have Q3 : Hid (∀ a ∈ x.2, affValidB a.1 a.2 = true) := Lib.hid H2.out.2.2
  clear H1 H2
  have HL1 : Hid ((x.1.map (evalA ps)).length = x.1.length) := Lib.hid (List.length_map _)
  have HL2 : Hid ((x.2.map (evalA ps)).length = x.2.length) := Lib.hid (List.length_map _)
  have a0 := new0 w (.slice p x.1.length c) [.slice q x.2.length d] 75
  have a1 := new1 w (.slice p x.1.length c) (.slice q x.2.length d) [] 75
  have E0 : Ext w (w.alloc (.cells #[.slice p x.1.length c, .slice q x.2.length d] 75)) := (Ext.refl w).alloc _
  have A0 := Lib.hid a0; have A1 := Lib.hid a1; have HE0 := Lib.hid E0; clear a0 a1 E0
  go_enter Try.func80, Try.ntmps80
  go_wp2_with (fail)
  have a0 := A0.out; have a1 := A1.out; have E0 := HE0.out
  clear A0 A1 HE0
  generalize w.alloc (.cells #[.slice p x.1.length c, .slice q x.2.length d] 75) = W0 at *
  generalize w.heap.size = g0 at *
  go_region_held3 (fun W => W.cell? ⟨g0, 0, none⟩ = some (.slice p x.1.length c) ∧ W.cell? ⟨g0, 1, none⟩ = some (.slice q x.2.length d))
    (first
      | exact ⟨a0, a1⟩
      | exact ⟨g1.keep a0, g1.keep a1⟩
      | exact ⟨g3.keep a0, g3.keep a1⟩
      | fail)
    (first
      | (go_at_call 101; (with_reducible refine (valuesAt_any p _ c x.1 _ ps _ rfl (HS.out.ext E0.drew) (HU.out.ext E0.drew) P3.out HP.out P2.out).mono ?_); rintro e w1 ⟨q1, d1, rfl, hv1, hE1⟩; have g1 : Ext W0 w1 := (Ext.refl W0).drew.trans hE1)
      | (go_at_call 100; (with_reducible refine (slicesMax_any (.slice q1 x.1.length d1) (x.1.map (evalA ps)) w1 hv1.at (by rw [HL1.out]; exact P1.out)).mono ?_); rintro e w2 ⟨rfl, rfl⟩)
      | (go_at_call 101; (with_reducible refine (valuesAt_any q _ d x.2 _ ps _ rfl (HT.out.ext (E0.trans g1)) (HU.out.ext (E0.trans g1)) Q3.out HP.out Q2.out).mono ?_); rintro e w3 ⟨q3, d3, rfl, hv3, hE3⟩; have g3 : Ext W0 w3 := g1.trans hE3)
      | (go_at_call 102; (with_reducible refine (slicesMin_any (.slice q3 x.2.length d3) (x.2.map (evalA ps)) w3 hv3.at (by rw [HL2.out]; exact Q1.out)).mono ?_); rintro e w4 ⟨rfl, rfl⟩)
      | fail)
  have g5 := E0.trans g3
  go_wp2
  exact bodyPost_ret (v := .tuple #[.int .i64 (loV x ps), .int .i64 (hiV x ps)]) (by simp [results, Try.results80, go_sem, loV, hiV]) rfl ⟨rfl, g5⟩
end Go.Proofs.Ytccibfldadflkaa

namespace Go.Proofs.Ytccibfldadflkaa
open Go.RowKit

set_option maxHeartbeats 4000000 in
theorem l2Range_any (s t : Value) (x : Lp) (u : Value) (ps : List Int) (w : World) (hs : AffsAt w s x.1) (ht : AffsAt w t x.2) (hu : IntsAt w u ps) (h1 : sideOk x.1) (h2 : sideOk x.2) (hp : ptB ps = true) :
    Calls Try.prog 97 #[.agg #[s, t], u] w fun e w' => e = .returned (.tuple #[.int .i64 (loV x ps), .int .i64 (hiV x ps)]) ∧ Ext w w' := by
  obtain ⟨p, c, rfl, hm⟩ := hs.form
  obtain ⟨q, d, rfl, hm2⟩ := ht.form
  have HS := Lib.hid hs; have HT := Lib.hid ht; have HU := Lib.hid hu; have H1 := Lib.hid h1; have H2 := Lib.hid h2; have HP := Lib.hid hp; clear hs ht hu h1 h2 hp
  obtain ⟨pu, cu, rfl, hmu, -⟩ := HU.out
  obtain ⟨zs, ys⟩ := x
  dsimp only at *
  have HN : Hid ((zs.map (evalA ps)).length = zs.length) := Lib.hid (List.length_map _)
  have HN' : Hid ((ys.map (evalA ps)).length = ys.length) := Lib.hid (List.length_map _)
  obtain ⟨x0, hx0⟩ := get_some (xs := zs) (k := 0) H1.out.1
  obtain ⟨y0, hy0⟩ := get_some (xs := ys) (k := 0) H2.out.1
  have hvx := H1.out.2.2 x0 (List.mem_of_getElem? hx0)
  have hvy := H2.out.2.2 y0 (List.mem_of_getElem? hy0)
  have HX0 : Hid ((zs.map (evalA ps))[0]? = some (evalA ps x0)) := by show _ = _; rw [List.getElem?_map, hx0]; rfl
  have HY0 : Hid ((ys.map (evalA ps))[0]? = some (evalA ps y0)) := by show _ = _; rw [List.getElem?_map, hy0]; rfl
  obtain ⟨b, off, q1, m1, rfl, c0, c1, hb, hr⟩ := (HS.out.ext ((Ext.refl w).alloc (.cells #[.slice p zs.length c, .slice q ys.length d] 75))).elem hx0
  obtain ⟨b', off', q2, m2, rfl, e0, e1, hb', hr'⟩ := (HT.out.ext ((Ext.refl w).alloc (.cells #[.slice (some ⟨b, off, none⟩) zs.length c, .slice q ys.length d] 75))).elem hy0
  rw [Nat.zero_mul, Nat.add_zero] at c0 c1 e0 e1
  have HR := Lib.hid hr; have HR' := Lib.hid hr'; clear hr hr' hb hb'
  have HMX := Lib.hid (List.mem_of_getElem? hx0); have HMY := Lib.hid (List.mem_of_getElem? hy0); clear hx0 hy0
  obtain ⟨x1, x2⟩ := x0
  obtain ⟨y1, y2⟩ := y0
  dsimp only at *
  obtain ⟨xa, xb, xc, xd, rfl, -⟩ := valid_four hvx
  obtain ⟨ya, yb, yc, yd, rfl, -⟩ := valid_four hvy
  have HVX := Lib.hid hvx; have HVY := Lib.hid hvy; clear hvx hvy
  have hz0 := H1.out.1; have hz0' := H2.out.1
  have E0 : Ext w (w.alloc (.cells #[.slice (some ⟨b, off, none⟩) zs.length c, .slice (some ⟨b', off', none⟩) ys.length d] 75)) := (Ext.refl w).alloc _
  have HB0 : Hid ((w.alloc (.cells #[.slice (some ⟨b, off, none⟩) zs.length c, .slice (some ⟨b', off', none⟩) ys.length d] 75)).heap[w.heap.size]? = some (.cells #[.slice (some ⟨b, off, none⟩) zs.length c, .slice (some ⟨b', off', none⟩) ys.length d] 75 (0, 0))) := Lib.hid (blk_at rfl)
  have HE0 := Lib.hid E0; clear E0
  generalize hn : zs.length = n at *
  generalize hn' : ys.length = n' at *
  go_enter Try.func97, Try.ntmps97
  go_wp2_with (fail)
  refine (l1Eval_any xa xb xc xd x2 _ _ ps _ HR.out (HU.out.ext HE0.out) HVX.out HP.out).mono ?_
  rintro e W1 ⟨rfl, hE⟩
  have E1 := HE0.out.trans hE
  have HB1 := Lib.hid (hE.blk HB0.out)
  obtain ⟨a0, a1, -, -⟩ := blk2 HB1.out
  replace e0 := hE.keep e0
  replace e1 := hE.keep e1
  have HR2 := Lib.hid (HR'.out.ext hE)
  have HXE : Hid (evalA ps ([xa, xb, xc, xd], x2) = evalK [xa, xb, xc, xd] ps x2 ps.length) := Lib.hid rfl
  clear hE HE0 HB0 HR HR' c0 c1
  generalize evalK [xa, xb, xc, xd] ps x2 ps.length = lo0 at *
  go_wp2_with (fail)
  refine (l1Eval_any ya yb yc yd y2 _ _ ps _ HR2.out (HU.out.ext E1) HVY.out HP.out).mono ?_
  rintro e W2 ⟨rfl, hE⟩
  have E2 := E1.trans hE
  have HB2 := Lib.hid (hE.blk HB1.out)
  have HYE : Hid (evalA ps ([ya, yb, yc, yd], y2) = evalK [ya, yb, yc, yd] ps y2 ps.length) := Lib.hid rfl
  clear hE HB1 HR2 e0 e1 E1 a0 a1
  generalize evalK [ya, yb, yc, yd] ps y2 ps.length = hi0 at *
  have HE2 := Lib.hid E2; clear E2
  have HH0 : Hid (minL ((ys.map (evalA ps)).take 1) = hi0) := by show _ = _; rw [minL_one HY0.out, HYE.out]
  have HL0 : Hid (maxL ((zs.map (evalA ps)).take 1) = lo0) := by show _ = _; rw [maxL_one HX0.out, HXE.out]
  obtain ⟨a0, a1, -, -⟩ := blk2 HB2.out
  go_wp2
  clear a0 a1
  go_loopw [6, 8] (fun l i wr => ∃ k : Nat, 1 ≤ k ∧ k ≤ n ∧ i = .int .i64 k ∧ l = .int .i64 (maxL ((zs.map (evalA ps)).take k)) ∧ wr.heap[w.heap.size]? = some (.cells #[.slice (some ⟨b, off, none⟩) n c, .slice (some ⟨b', off', none⟩) n' d] 75 (0, 0)) ∧ Ext w wr) (fun _ i _ => n - (intOf i).toNat)
  case atStart => exact ⟨1, by omega, by omega, rfl, by rw [HL0.out], HB2.out, HE2.out⟩
  case round =>
    obtain ⟨k, hk1, hk, rfl, rfl, hB, hE⟩ := hrel
    have HB := Lib.hid hB
    obtain ⟨a0, a1, -, -⟩ := blk2 hB
    clear hB
    by_cases hlt : k < n
    · obtain ⟨x, hx⟩ := get_some (xs := zs) (k := k) (by rw [hn]; exact hlt)
      obtain ⟨bx, offx, q1, m1, ee, c0, c1, hb, hr⟩ := (HS.out.ext hE).elem hx
      cases ee
      have hva := H1.out.2.2 x (List.mem_of_getElem? hx)
      have hM := maxL_take (l := zs.map (evalA ps)) (k := k) (v := evalA ps x) (by omega) (by rw [List.getElem?_map, hx]; rfl)
      obtain ⟨x1, x2'⟩ := x
      dsimp only at *
      obtain ⟨va, vb, vc, vd, rfl, -⟩ := valid_four hva
      have HXE2 : Hid (evalA ps ([va, vb, vc, vd], x2') = evalK [va, vb, vc, vd] ps x2' ps.length) := Lib.hid rfl
      have HM := Lib.hid hM; have HR := Lib.hid hr; have HVA := Lib.hid hva; clear hx hr hva hM hb
      go_wp2_with (fail)
      refine (l1Eval_any va vb vc vd x2' _ _ ps _ HR.out (HU.out.ext hE) HVA.out HP.out).mono ?_
      rintro e W3 ⟨rfl, hE3⟩
      rw [HXE2.out] at HM
      clear c0 c1 a0 a1 HXE2
      generalize evalK [va, vb, vc, vd] ps x2' ps.length = v at *
      generalize maxL ((zs.map (evalA ps)).take k) = m at *
      by_cases hlm : m < v
      · go_wp2
        go_roundw
        case rel => exact ⟨k + 1, by omega, by omega, by go_num, by rw [HM.out, if_pos (by omega)], hE3.blk HB.out, hE.trans hE3⟩
        case measure => simp [intOf]; omega
      · go_wp2
        go_roundw
        case rel => exact ⟨k + 1, by omega, by omega, by go_num, by rw [HM.out, if_neg (by omega)], hE3.blk HB.out, hE.trans hE3⟩
        case measure => simp [intOf]; omega
    · have e : k = n := by omega
      subst e
      have HLo : Hid (maxL ((zs.map (evalA ps)).take k) = loV (zs, ys) ps) := by show _ = _; rw [List.take_of_length_le (by rw [HN.out]; omega)]; rfl
      rw [HLo.out]
      go_wp2
      clear a0 a1 HLo HL0
      go_loopw [7, 10] (fun l i wr' => ∃ k' : Nat, 1 ≤ k' ∧ k' ≤ n' ∧ i = .int .i64 k' ∧ l = .int .i64 (minL ((ys.map (evalA ps)).take k')) ∧ wr'.heap[w.heap.size]? = some (.cells #[.slice (some ⟨b, off, none⟩) k c, .slice (some ⟨b', off', none⟩) n' d] 75 (0, 0)) ∧ Ext w wr') (fun _ i _ => n' - (intOf i).toNat)
      case atStart => exact ⟨1, by omega, by omega, rfl, by rw [HH0.out], HB.out, hE⟩
      case round =>
        clear hE HB
        obtain ⟨k', hk1', hk', rfl, rfl, hB, hE⟩ := hrel
        have HB := Lib.hid hB
        obtain ⟨a0, a1, -, -⟩ := blk2 hB
        clear hB
        by_cases hlt' : k' < n'
        · obtain ⟨x, hx⟩ := get_some (xs := ys) (k := k') (by rw [hn']; exact hlt')
          obtain ⟨bx, offx, q1, m1, ee, c0, c1, hb, hr⟩ := (HT.out.ext hE).elem hx
          cases ee
          have hva := H2.out.2.2 x (List.mem_of_getElem? hx)
          have hM := minL_take (l := ys.map (evalA ps)) (k := k') (v := evalA ps x) (by omega) (by rw [List.getElem?_map, hx]; rfl)
          obtain ⟨x1, x2'⟩ := x
          dsimp only at *
          obtain ⟨va, vb, vc, vd, rfl, -⟩ := valid_four hva
          have HXE2 : Hid (evalA ps ([va, vb, vc, vd], x2') = evalK [va, vb, vc, vd] ps x2' ps.length) := Lib.hid rfl
          have HM := Lib.hid hM; have HR := Lib.hid hr; have HVA := Lib.hid hva; clear hx hr hva hM hb
          go_wp2_with (fail)
          refine (l1Eval_any va vb vc vd x2' _ _ ps _ HR.out (HU.out.ext hE) HVA.out HP.out).mono ?_
          rintro e W3 ⟨rfl, hE3⟩
          rw [HXE2.out] at HM
          clear c0 c1 a0 a1 HXE2
          generalize evalK [va, vb, vc, vd] ps x2' ps.length = v at *
          generalize minL ((ys.map (evalA ps)).take k') = m at *
          by_cases hlm : v < m
          · go_wp2
            go_roundw
            case rel => exact ⟨k' + 1, by omega, by omega, by go_num, by rw [HM.out, if_pos (by omega)], hE3.blk HB.out, hE.trans hE3⟩
            case measure => simp [intOf]; omega
          · go_wp2
            go_roundw
            case rel => exact ⟨k' + 1, by omega, by omega, by go_num, by rw [HM.out, if_neg (by omega)], hE3.blk HB.out, hE.trans hE3⟩
            case measure => simp [intOf]; omega
        · have e : k' = n' := by omega
          subst e
          have HHi : Hid (minL ((ys.map (evalA ps)).take k') = hiV (zs, ys) ps) := by show _ = _; rw [List.take_of_length_le (by rw [HN'.out]; omega)]; rfl
          rw [HHi.out]
          go_wp2
          exact bodyPost_ret (v := .tuple #[.int .i64 (loV (zs, ys) ps), .int .i64 (hiV (zs, ys) ps)]) (by simp [results, Try.results97, go_sem]) rfl ⟨rfl, hE⟩
end Go.Proofs.Ytccibfldadflkaa

namespace Go.Proofs.Ytccibfldadflkaa
open Go.RowKit

theorem nest_side {ls : List Lp} {i : Nat} {x : Lp} (h : nestB ls = true) (hx : ls[i]? = some x) : sideOk x.1 ∧ sideOk x.2 := by
  have := (nestB_iff.1 h).2 i x hx
  simp only [loopB, Bool.and_eq_true] at this
  exact ⟨sideOk_of this.1, sideOk_of this.2⟩

end Go.Proofs.Ytccibfldadflkaa

namespace Go.Proofs.Ytccibfldadflkaa
open Go.RowKit

/-- The coordinate i of the point is in the range of its loop. -/
def inB (ls : List Lp) (ps : List Int) (i : Nat) : Bool := decide (loV (ls.getD i ([], [])) (ps.take i) ≤ ps.getD i 0 ∧ ps.getD i 0 < hiV (ls.getD i ([], [])) (ps.take i))
/-- A beginning of a list of ints reads where the whole list does. -/
theorem IntsAt.front {w : World} {p : Option Addr} {n c : Nat} {ps : List Int} (h : IntsAt w (.slice p n c) ps) {k : Nat} (hk : k ≤ n) : IntsAt w (.slice p k c) (ps.take k) := by
  obtain ⟨p', c', hv, hm, hc⟩ := h
  cases hv
  have hl : (ps.take k).length = k := by rw [List.length_take]; omega
  refine ⟨p, c, by rw [hl], by omega, fun i x hi => ?_⟩
  rw [List.getElem?_take] at hi
  split at hi
  · exact hc i x hi
  · cases hi
theorem IntsOwn.cap {B : Nat} {w : World} {p : Option Addr} {n c : Nat} {xs : List Int} (h : IntsOwn B w (.slice p n c) xs) : n ≤ c := by
  rcases h.2 with ⟨hv, hn⟩ | ⟨g, cap, cur, hv, _, _, h1, _⟩
  · cases hv; omega
  · cases hv; exact h1

end Go.Proofs.Ytccibfldadflkaa
