/- The points of a nest: which they are, their order, how many of a box. No statement is proved here. | Contracts for lists of points: equality, marks. No statement is proved here. | The elements of a list of points. No statement is proved here. -/
import Derived.Test.YtkcbnkgegopkhaaR1
import Derived.Test.YtkcbnkgegopkhaaN11
import Derived.Test.YtkcbnkgegopkhaaM1
import Derived.Test.YtkcbnkgegopkhaaP1
import Derived.Test.YtkcbnkgegopkhaaR7
namespace Go.Proofs.Ytkcbnkgegopkhaa
open Go.RowKit

theorem listLoop_iff {f : Int → List (List Int)} {x : List Int} : ∀ (k : Nat) (v : Int), x ∈ listLoop f k v ↔ ∃ j : Nat, j < k ∧ x ∈ f (v + j)
  | 0, v => by simp [listLoop]
  | k + 1, v => by
    simp only [listLoop, List.mem_append]
    rw [listLoop_iff k (v + 1)]
    constructor
    · rintro (h | ⟨j, hj, h⟩)
      · exact ⟨0, by omega, by simpa using h⟩
      · exact ⟨j + 1, by omega, by rw [show v + ((j + 1 : Nat) : Int) = v + 1 + j by omega]; exact h⟩
    · rintro ⟨j, hj, h⟩
      rcases Nat.eq_zero_or_pos j with rfl | hp
      · exact .inl (by simpa using h)
      · exact .inr ⟨j - 1, by omega, by rw [show v + 1 + ((j - 1 : Nat) : Int) = v + j by omega]; exact h⟩
theorem lpAt_getD (ls : List Lp) (ps : List Int) : lpAt ls ps = ls.getD ps.length ([], []) := rfl
theorem take_snoc {x ps : List Int} {v : Int} (h : x.take (ps.length + 1) = ps ++ [v]) : x.take ps.length = ps ∧ x[ps.length]? = some v := by
  constructor
  · have := congrArg (List.take ps.length) h
    rwa [List.take_take, Nat.min_eq_left (by omega), List.take_append_of_le_length (Nat.le_refl _), List.take_length] at this
  · have := congrArg (fun l : List Int => l[ps.length]?) h
    simp only [List.getElem?_take] at this
    rw [if_pos (by omega), List.getElem?_append_right (Nat.le_refl _)] at this
    simpa using this
/-- The points that begin with ps are those that continue ps within the ranges of the loops. -/
theorem leaves_iff (ls : List Lp) (x : List Int) : ∀ (d : Nat) (ps : List Int), ps.length + d = ls.length → (x ∈ leaves ls d ps ↔ x.length = ls.length ∧ x.take ps.length = ps ∧ ∀ i, ps.length ≤ i → i < ls.length → inB ls x i = true)
  | 0, ps, hd => by
    simp only [leaves, List.mem_singleton]
    constructor
    · rintro rfl
      exact ⟨by omega, by simp, fun i h1 h2 => by omega⟩
    · rintro ⟨h1, h2, -⟩
      rw [← h2, List.take_of_length_le (by omega)]
  | d + 1, ps, hd => by
    simp only [leaves]
    rw [listLoop_iff]
    constructor
    · rintro ⟨j, hj, h⟩
      obtain ⟨h1, h2, h3⟩ := (leaves_iff ls x d (ps ++ [loV (lpAt ls ps) ps + j]) (by rw [List.length_append]; simp; omega)).1 h
      rw [List.length_append, List.length_singleton] at h2 h3
      obtain ⟨h4, h5⟩ := take_snoc h2
      refine ⟨h1, h4, fun i hi hl => ?_⟩
      rcases Nat.eq_or_lt_of_le hi with rfl | hi
      · unfold inB
        rw [h4, List.getD_eq_getElem?_getD (l := x), h5, ← lpAt_getD]
        unfold trips at hj
        simp only [Option.getD_some, decide_eq_true_eq]
        omega
      · exact h3 i hi hl
    · rintro ⟨h1, h2, h3⟩
      have h4 := h3 ps.length (Nat.le_refl _) (by omega)
      obtain ⟨v, hv⟩ := get_some (xs := x) (k := ps.length) (by omega)
      unfold inB at h4
      rw [h2, List.getD_eq_getElem?_getD (l := x), hv, ← lpAt_getD] at h4
      simp only [Option.getD_some, decide_eq_true_eq] at h4
      have hve : loV (lpAt ls ps) ps + ((v - loV (lpAt ls ps) ps).toNat : Int) = v := by omega
      refine ⟨(v - loV (lpAt ls ps) ps).toNat, by unfold trips; omega, ?_⟩
      rw [hve]
      refine (leaves_iff ls x d (ps ++ [v]) (by rw [List.length_append]; simp; omega)).2 ⟨h1, ?_, fun i hi hl => h3 i (by rw [List.length_append] at hi; omega) hl⟩
      rw [List.length_append, List.length_singleton, take_next hv, h2]
/-- Ascending without repetition. -/
theorem listLoop_sorted {f : Int → List (List Int)} {k0 : Nat} {ps : List Int} (hs : ∀ v, List.Pairwise (fun x y => lexB x y = true) (f v)) (hp : ∀ v, ∀ x ∈ f v, x.take k0 = ps ∧ x[k0]? = some v) :
    ∀ (k : Nat) (v : Int), List.Pairwise (fun x y => lexB x y = true) (listLoop f k v)
  | 0, _ => List.Pairwise.nil
  | k + 1, v => by
    simp only [listLoop]
    refine List.pairwise_append.2 ⟨hs v, listLoop_sorted hs hp k (v + 1), fun x hx y hy => ?_⟩
    obtain ⟨j, hj, hy⟩ := (listLoop_iff k (v + 1)).1 hy
    obtain ⟨h1, h2⟩ := hp v x hx
    obtain ⟨h3, h4⟩ := hp _ y hy
    rw [lexB_at (h1.trans h3.symm) h2 h4 (by omega)]
    exact decide_eq_true (by omega)
theorem leaves_sorted (ls : List Lp) : ∀ (d : Nat) (ps : List Int), ps.length + d = ls.length → List.Pairwise (fun x y => lexB x y = true) (leaves ls d ps)
  | 0, ps, _ => by simp [leaves]
  | d + 1, ps, hd => by
    simp only [leaves]
    refine listLoop_sorted (k0 := ps.length) (ps := ps) (fun v => leaves_sorted ls d (ps ++ [v]) (by rw [List.length_append]; simp; omega)) (fun v x hx => ?_) _ _
    obtain ⟨_, h2, _⟩ := (leaves_iff ls x d (ps ++ [v]) (by rw [List.length_append]; simp; omega)).1 hx
    rw [List.length_append, List.length_singleton] at h2
    exact take_snoc h2
/-- What NestPoints lists are the points that PointIn accepts, as long as they are points. -/
theorem nptsL_iff {ls : List Lp} (h : nptsB ls = true) (x : List Int) : x ∈ nptsL ls ↔ x.length = ls.length ∧ ∀ i, i < ls.length → inB ls x i = true := by
  rw [nptsL_leaves h, leaves_iff ls x ls.length [] (by simp)]
  simp
theorem nptsB_nest {ls : List Lp} (h : nptsB ls = true) : nestB ls = true := by
  simp only [nptsB, Bool.and_eq_true] at h; exact h.1
theorem nptsL_point {ls : List Lp} (h : nptsB ls = true) {x : List Int} (hp : ptB x = true) : pointB ls x = true ↔ x ∈ nptsL ls := by
  rw [nptsL_iff h]
  unfold pointB
  rw [nptsB_nest h, hp]
  simp [List.all_eq_true, List.mem_range]
theorem nptsL_sorted {ls : List Lp} (h : nptsB ls = true) {i : Nat} {x y : List Int} (hx : (nptsL ls)[i]? = some x) (hy : (nptsL ls)[i + 1]? = some y) : lexB x y = true := by
  have hs : List.Pairwise (fun x y => lexB x y = true) (nptsL ls) := by rw [nptsL_leaves h]; exact leaves_sorted ls ls.length [] (by simp)
  obtain ⟨h1, rfl⟩ := List.getElem?_eq_some_iff.1 hx
  obtain ⟨h2, rfl⟩ := List.getElem?_eq_some_iff.1 hy
  exact List.pairwise_iff_getElem.1 hs i (i + 1) h1 h2 (by omega)
theorem nptsL_len {ls : List Lp} : (nptsL ls).length ≤ 120 := by
  unfold nptsL
  split
  · rename_i h
    simp only [nptsB, Bool.and_eq_true, decide_eq_true_eq] at h
    exact h.2.2
  · simp
/-- Beginnings of nests and points. -/
theorem nestB_take {ls : List Lp} (h : nestB ls = true) (k : Nat) : nestB (ls.take k) = true := by
  rw [nestB_iff] at *
  refine ⟨by rw [List.length_take]; omega, fun i l hl => ?_⟩
  rw [List.getElem?_take] at hl
  split at hl
  · exact h.2 i l hl
  · cases hl
theorem inB_take {ls : List Lp} {x : List Int} {i k : Nat} (hi : i < k) : inB (ls.take k) (x.take k) i = inB ls x i := by
  unfold inB
  rw [List.take_take, Nat.min_eq_left (by omega)]
  simp only [List.getD_eq_getElem?_getD, List.getElem?_take, if_pos hi]
theorem point_take {ls : List Lp} {x : List Int} {k : Nat} (hn : nestB ls = true) (hl : x.length = ls.length) (hk : k ≤ ls.length) (hp : ptB (x.take k) = true) (h : ∀ i, i < ls.length → inB ls x i = true) : pointB (ls.take k) (x.take k) = true :=
  pointB_yes (n := k) (nestB_take hn k) hp (by rw [List.length_take]; omega) (by rw [List.length_take]; omega) (fun i hi => by rw [inB_take hi]; exact h i (by omega))
/-- Without an iteration of the outermost loop there are no points. -/
theorem leaves_none {ls : List Lp} {d : Nat} (h : hiV (lpAt ls []) [] ≤ loV (lpAt ls []) []) : leaves ls (d + 1) [] = [] := by
  simp only [leaves]
  have : trips ls [] = 0 := by unfold trips; omega
  rw [this]; rfl
/-- The points of a box. -/
theorem listLoop_const {f : Int → List (List Int)} {L : Nat} (h : ∀ v, (f v).length = L) : ∀ (k : Nat) (v : Int), (listLoop f k v).length = k * L
  | 0, _ => by simp [listLoop]
  | k + 1, v => by simp only [listLoop, List.length_append]; rw [h v, listLoop_const h k (v + 1), Nat.succ_mul, Nat.add_comm]
theorem zeros_getD (n : Nat) : ([0, 0, 0, 0] : List Int).getD n 0 = 0 := by
  match n with
  | 0 => rfl
  | 1 => rfl
  | 2 => rfl
  | 3 => rfl
  | n + 4 => rfl
theorem evalA_const (ps : List Int) (k : Int) : evalA ps (constA k) = k := by
  have : ∀ n, evalK [0, 0, 0, 0] ps k n = k := fun n => by
    induction n with
    | zero => rfl
    | succ n ih => rw [evalK, ih, zeros_getD]; omega
  exact this _
def prodN : List Int → Nat
  | [] => 1
  | a :: l => a.toNat * prodN l
theorem leaves_box (ns : List Int) : ∀ (d : Nat) (ps : List Int), ps.length + d = ns.length → (leaves (ns.map boxLp) d ps).length = prodN (ns.drop ps.length)
  | 0, ps, hd => by
    rw [List.drop_of_length_le (by omega)]; rfl
  | d + 1, ps, hd => by
    obtain ⟨v, hv⟩ := get_some (xs := ns) (k := ps.length) (by omega)
    have hx : (ns.map boxLp)[ps.length]? = some (boxLp v) := by rw [List.getElem?_map, hv]; rfl
    have ht : trips (ns.map boxLp) ps = v.toNat := by
      unfold trips
      rw [lpAt_of hx]
      simp only [hiV, loV, boxLp, List.map_cons, List.map_nil, evalA_const, maxL, minL, List.foldl_nil]
      rw [Int.sub_zero]
    simp only [leaves]
    rw [ht, listLoop_const (L := prodN (ns.drop (ps.length + 1))) (fun u => by rw [leaves_box ns d (ps ++ [u]) (by rw [List.length_append]; simp; omega), List.length_append, List.length_singleton]), drop_at hv]
    rfl
end Go.Proofs.Ytkcbnkgegopkhaa

namespace Go.Proofs.Ytkcbnkgegopkhaa
open Go.RowKit

/-- The value reads as a list of lists of ints. -/
def PtsAt (w : World) (v : Value) (xss : List (List Int)) : Prop :=
  xss.length ≤ 1000000 ∧ ((v = .slice none 0 0 ∧ xss = []) ∨ ∃ g c, v = .slice (some ⟨g, 0, none⟩) xss.length c ∧ g < w.heap.size ∧ ∀ (i : Nat) (xs : List Int), xss[i]? = some xs → ∃ u, w.cell? ⟨g, i, none⟩ = some u ∧ IntsAt w u xs)
theorem PtsAt.ext {w w' : World} {v : Value} {xss : List (List Int)} (h : PtsAt w v xss) (hE : Ext w w') : PtsAt w' v xss := by
  refine ⟨h.1, h.2.imp id ?_⟩
  rintro ⟨g, c, hv, hg, he⟩
  refine ⟨g, c, hv, Nat.lt_of_lt_of_le hg hE.size_le, fun i xs hi => ?_⟩
  obtain ⟨u, h0, h1⟩ := he i xs hi
  exact ⟨u, hE.keep h0, h1.ext hE⟩
theorem PtsAt.form {w : World} {v : Value} {xss : List (List Int)} (h : PtsAt w v xss) : ∃ p c, v = .slice p xss.length c := by
  rcases h.2 with ⟨rfl, rfl⟩ | ⟨g, c, rfl, _⟩
  · exact ⟨none, 0, rfl⟩
  · exact ⟨_, _, rfl⟩
theorem PtsAt.elem {w : World} {p : Option Addr} {n c i : Nat} {xss : List (List Int)} {xs : List Int} (h : PtsAt w (.slice p n c) xss) (hi : xss[i]? = some xs) : ∃ g u, p = some ⟨g, 0, none⟩ ∧ w.cell? ⟨g, i, none⟩ = some u ∧ g < w.heap.size ∧ IntsAt w u xs := by
  rcases h.2 with ⟨_, rfl⟩ | ⟨g, c', hv, hg, he⟩
  · simp at hi
  · obtain ⟨u, h0, h1⟩ := he i xs hi
    simp only [Value.slice.injEq] at hv
    exact ⟨g, u, hv.1, h0, hg, h1⟩
theorem pts_at {B : Nat} {w : World} {v : Value} {xss : List (List Int)} {vs : List Value} (h0 : xss.length ≤ 1000000) (ho : w.ownsRow B 37 1 v xss.length vs) (he : ∀ (i : Nat) (xs : List Int), xss[i]? = some xs → ∃ u : Value, vs[i]? = some u ∧ IntsAt w u xs) : PtsAt w v xss := by
  refine ⟨h0, ?_⟩
  rcases ho.2 with ⟨hv, hn⟩ | ⟨g, cap, cur, hv, hb, hgh, r⟩
  · exact .inl ⟨hv, List.eq_nil_of_length_eq_zero hn⟩
  · refine .inr ⟨g, cap, hv, (Array.getElem?_eq_some_iff.1 hgh).1, fun i xs hi => ?_⟩
    obtain ⟨u, h1, h2⟩ := he i xs hi
    refine ⟨u, ?_, h2⟩
    subst hv
    rw [ho.cellAt i (by have := (List.getElem?_eq_some_iff.1 hi).1; omega)]
    exact h1
theorem PtsOwn.at {B : Nat} {w : World} {v : Value} {xss : List (List Int)} (h : PtsOwn B w v xss) (h0 : xss.length ≤ 1000000) : PtsAt w v xss := by
  obtain ⟨vs, ho, he⟩ := h
  exact pts_at h0 ho (fun i xs hi => by obtain ⟨u, h1, h2⟩ := he i xs hi; exact ⟨u, h1, h2.at⟩)
theorem PtsD.at {own : List Nat} {B : Nat} {w : World} {v : Value} {xss : List (List Int)} (h : PtsD own B w v xss) (h0 : xss.length ≤ 1000000) : PtsAt w v xss := by
  obtain ⟨vs, ho, _, he⟩ := h
  exact pts_at h0 ho (fun i xs hi => by obtain ⟨g, c, h1, h2, _⟩ := he i xs hi; exact ⟨_, h1, h2.at⟩)

set_option maxHeartbeats 800000 in
theorem lnIntsE_any (s t : Value) (xs ys : List Int) (w : World) (hs : IntsAt w s xs) (ht : IntsAt w t ys) :
    Calls Try.prog 27 #[s, t] w fun e w' => e = .returned (.bool (eqB xs ys)) ∧ Ext w w' := by
  obtain ⟨p, c, rfl, hm, hc⟩ := hs.get
  obtain ⟨q, d, rfl, hm2, hd⟩ := ht.get
  clear hs ht
  generalize hlen : xs.length = n at *
  have HL := Lib.hid hlen; clear hlen
  have HC := Lib.hid hc; clear hc
  have HD := Lib.hid hd; clear hd
  by_cases hne : ys.length = n
  · have HN := Lib.hid hne
    rw [hne] at hm2 ⊢
    clear hne
    go_enter Try.func27, Try.ntmps27
    go_wp2
    go_loopw [5] (fun i wr => ∃ k : Nat, k ≤ n ∧ i = .int .i64 k ∧ xs.take k = ys.take k ∧ Ext w wr) (fun i _ => n - (intOf i).toNat)
    case atStart => exact ⟨0, by omega, rfl, rfl, Ext.refl w⟩
    case round =>
      obtain ⟨k, hk, rfl, htk, hE⟩ := hrel
      have HT := Lib.hid htk; clear htk
      by_cases hlt : k < n
      · obtain ⟨x, hx⟩ := get_some (xs := xs) (k := k) (by rw [HL.out]; exact hlt)
        obtain ⟨y, hy⟩ := get_some (xs := ys) (k := k) (by rw [HN.out]; exact hlt)
        obtain ⟨b, off, rfl, hck, hbl⟩ := HC.out k x hx
        obtain ⟨b2, off2, rfl, hdk, hbl2⟩ := HD.out k y hy
        have hck' := (hE.cells.1 _ (off + k) hbl).trans hck
        have hdk' := (hE.cells.1 _ (off2 + k) hbl2).trans hdk
        have HX := Lib.hid hx; clear hx
        have HY := Lib.hid hy; clear hy
        clear hck hdk
        by_cases hxy : x = y
        · subst hxy
          go_wp2
          go_quiet (fail)
          go_wp2
          go_roundw
          case rel => exact ⟨k + 1, by omega, by go_num, take_eq_next HX.out HY.out HT.out rfl, hE.drewN _⟩
          case measure => simp [intOf]; omega
        · have hb : (x != y) = true := by simp [hxy]
          have HXY := Lib.hid hxy; clear hxy
          go_wp2
          go_quiet (fail)
          go_wp2
          go_ret
          exact ⟨ret_bool (eqB_ne HX.out HY.out HXY.out).symm, hE.drewN _⟩
      · go_wp2
        go_ret
        exact ⟨ret_bool (eqB_all (by rw [HL.out]; omega) (by rw [HN.out]; omega) HT.out).symm, hE⟩
  · have hb : ((n : Int) != ys.length) = true := by simp; omega
    have HN := Lib.hid hne; clear hne
    go_enter Try.func27, Try.ntmps27
    go_wp2
    go_ret
    exact ⟨ret_bool (eqB_len (by rw [HL.out]; exact fun e => HN.out e.symm)).symm, Ext.refl w⟩

set_option maxHeartbeats 2000000 in
theorem eqIntSS_any (s t : Value) (xss yss : List (List Int)) (w : World) (hs : PtsAt w s xss) (ht : PtsAt w t yss) :
    Calls Try.prog 16 #[s, t] w fun e w' => e = .returned (.bool (lEqB xss yss)) ∧ Ext w w' := by
  obtain ⟨p, c, rfl⟩ := hs.form
  obtain ⟨q, d, rfl⟩ := ht.form
  have hm := hs.1
  have hm2 := ht.1
  generalize hn : xss.length = n at *
  generalize hn' : yss.length = n' at *
  have HS := Lib.hid hs; have HT := Lib.hid ht; clear hs ht
  have HN := Lib.hid hn; have HN' := Lib.hid hn'; clear hn hn'
  by_cases hne : n' = n
  · subst hne
    go_enter Try.func16, Try.ntmps16
    go_wp2
    go_loopw [5] (fun i wr => ∃ k : Nat, k ≤ n' ∧ i = .int .i64 k ∧ xss.take k = yss.take k ∧ Ext w wr) (fun i _ => n' - (intOf i).toNat)
    case atStart => exact ⟨0, by omega, rfl, by simp, Ext.refl w⟩
    case round =>
      obtain ⟨k, hk, rfl, htk, hE⟩ := hrel
      have HK := Lib.hid htk; clear htk
      by_cases hlt : k < n'
      · obtain ⟨x, hx⟩ := get_some (xs := xss) (k := k) (by rw [HN.out]; exact hlt)
        obtain ⟨y, hy⟩ := get_some (xs := yss) (k := k) (by rw [HN'.out]; exact hlt)
        obtain ⟨b, u, rfl, a0, hb, hr⟩ := (HS.out.ext hE).elem hx
        obtain ⟨b', u', rfl, b0, hb', hr'⟩ := (HT.out.ext hE).elem hy
        have HX := Lib.hid hx; have HY := Lib.hid hy; have HR := Lib.hid hr; have HR' := Lib.hid hr'; clear hx hy hr hr'
        go_wp2_with (fail)
        go_region_held3 (fun W => W.cell? ⟨b, k, none⟩ = some u ∧ W.cell? ⟨b', k, none⟩ = some u')
          (first | exact ⟨a0, b0⟩ | exact ⟨g3.keep a0, g3.keep b0⟩ | fail)
          (first | (go_at_call 51; (with_reducible refine (eqIntS_any _ _ x y _ (HR.out.ext (Ext.refl wr).drew) (HR'.out.ext (Ext.refl wr).drew)).mono ?_); rintro e w3 ⟨rfl, hE3⟩; have g3 := (Ext.refl wr).drew.trans hE3) | fail)
        cases hq : eqB x y with
        | true =>
          have e : x = y := by simpa [eqB] using hq
          go_wp2
          go_roundw
          case rel => exact ⟨k + 1, by omega, by go_num, ltake_eq_next HX.out HY.out HK.out e, hE.trans g3⟩
          case measure => simp [intOf]; omega
        | false =>
          have e : x ≠ y := by simpa [eqB] using hq
          have HE := Lib.hid e; clear e
          go_wp2
          go_ret
          exact ⟨ret_bool (lEqB_ne HX.out HY.out HE.out).symm, hE.trans g3⟩
      · go_wp2
        go_ret
        exact ⟨ret_bool (lEqB_all (by rw [HN.out]; omega) (by rw [HN'.out]; omega) HK.out).symm, hE⟩
  · have hb : ((n : Int) != n') = true := by simp; omega
    have HNE := Lib.hid hne; clear hne
    go_enter Try.func16, Try.ntmps16
    go_wp2
    go_ret
    exact ⟨ret_bool (lEqB_len (by rw [HN.out, HN'.out]; exact fun e => HNE.out e.symm)).symm, Ext.refl w⟩


set_option maxHeartbeats 2000000 in
theorem lnLists_any (s t : Value) (xss yss : List (List Int)) (w : World) (hs : PtsAt w s xss) (ht : PtsAt w t yss) :
    Calls Try.prog 22 #[s, t] w fun e w' => e = .returned (.bool (lEqB xss yss)) ∧ Ext w w' := by
  obtain ⟨p, c, rfl⟩ := hs.form
  obtain ⟨q, d, rfl⟩ := ht.form
  have hm := hs.1
  have hm2 := ht.1
  generalize hn : xss.length = n at *
  generalize hn' : yss.length = n' at *
  have HS := Lib.hid hs; have HT := Lib.hid ht; clear hs ht
  have HN := Lib.hid hn; have HN' := Lib.hid hn'; clear hn hn'
  by_cases hne : n' = n
  · subst hne
    go_enter Try.func22, Try.ntmps22
    go_wp2
    go_loopw [5] (fun i wr => ∃ k : Nat, k ≤ n' ∧ i = .int .i64 k ∧ xss.take k = yss.take k ∧ Ext w wr) (fun i _ => n' - (intOf i).toNat)
    case atStart => exact ⟨0, by omega, rfl, by simp, Ext.refl w⟩
    case round =>
      obtain ⟨k, hk, rfl, htk, hE⟩ := hrel
      have HK := Lib.hid htk; clear htk
      by_cases hlt : k < n'
      · obtain ⟨x, hx⟩ := get_some (xs := xss) (k := k) (by rw [HN.out]; exact hlt)
        obtain ⟨y, hy⟩ := get_some (xs := yss) (k := k) (by rw [HN'.out]; exact hlt)
        obtain ⟨b, u, rfl, a0, hb, hr⟩ := (HS.out.ext hE).elem hx
        obtain ⟨b', u', rfl, b0, hb', hr'⟩ := (HT.out.ext hE).elem hy
        have HX := Lib.hid hx; have HY := Lib.hid hy; have HR := Lib.hid hr; have HR' := Lib.hid hr'; clear hx hy hr hr'
        go_wp2_with (fail)
        go_region_held3 (fun W => W.cell? ⟨b, k, none⟩ = some u ∧ W.cell? ⟨b', k, none⟩ = some u')
          (first | exact ⟨a0, b0⟩ | exact ⟨g3.keep a0, g3.keep b0⟩ | fail)
          (first | (go_at_call 27; (with_reducible refine (lnIntsE_any _ _ x y _ (HR.out.ext (Ext.refl wr).drew) (HR'.out.ext (Ext.refl wr).drew)).mono ?_); rintro e w3 ⟨rfl, hE3⟩; have g3 := (Ext.refl wr).drew.trans hE3) | fail)
        cases hq : eqB x y with
        | true =>
          have e : x = y := by simpa [eqB] using hq
          go_wp2
          go_roundw
          case rel => exact ⟨k + 1, by omega, by go_num, ltake_eq_next HX.out HY.out HK.out e, hE.trans g3⟩
          case measure => simp [intOf]; omega
        | false =>
          have e : x ≠ y := by simpa [eqB] using hq
          have HE := Lib.hid e; clear e
          go_wp2
          go_ret
          exact ⟨ret_bool (lEqB_ne HX.out HY.out HE.out).symm, hE.trans g3⟩
      · go_wp2
        go_ret
        exact ⟨ret_bool (lEqB_all (by rw [HN.out]; omega) (by rw [HN'.out]; omega) HK.out).symm, hE⟩
  · have hb : ((n : Int) != n') = true := by simp; omega
    have HNE := Lib.hid hne; clear hne
    go_enter Try.func22, Try.ntmps22
    go_wp2
    go_ret
    exact ⟨ret_bool (lEqB_len (by rw [HN.out, HN'.out]; exact fun e => HNE.out e.symm)).symm, Ext.refl w⟩


/-- Marks of lists of ints. -/
def endS : Int → List (List Int) → Int
  | k, [] => k
  | k, x :: l => endS (k + x.length) l
def marksS : Int → List (List Int) → List (List Int)
  | _, [] => []
  | k, x :: l => marks k x.length :: marksS (k + x.length) l
theorem endS_app (k : Int) (l r : List (List Int)) : endS k (l ++ r) = endS (endS k l) r := by
  induction l generalizing k with
  | nil => rfl
  | cons a l ih => simp only [List.cons_append, endS]; exact ih _
theorem marksS_app (k : Int) (l r : List (List Int)) : marksS k (l ++ r) = marksS k l ++ marksS (endS k l) r := by
  induction l generalizing k with
  | nil => rfl
  | cons a l ih => simp only [List.cons_append, marksS, endS]; rw [ih]
theorem marksS_len (k : Int) (l : List (List Int)) : (marksS k l).length = l.length := by
  induction l generalizing k with
  | nil => rfl
  | cons a l ih => simp only [marksS, List.length_cons, ih]
theorem endS_next {l : List (List Int)} {i : Nat} {a : List Int} (h : l[i]? = some a) (k : Int) : endS k (l.take (i + 1)) = endS k (l.take i) + a.length := by rw [take_next h, endS_app]; rfl
theorem endS_ge (k : Int) (l : List (List Int)) : k ≤ endS k l := by
  induction l generalizing k with
  | nil => exact Int.le_refl _
  | cons a l ih => simp only [endS]; have := ih (k + a.length); omega
theorem endS_take (k : Int) (l : List (List Int)) (i : Nat) : endS k (l.take i) ≤ endS k l := by
  conv => rhs; rw [← List.take_append_drop i l, endS_app]
  exact endS_ge _ _
theorem endS_four {l : List (List Int)} (h : ∀ x ∈ l, x.length ≤ 4) (k : Int) : endS k l ≤ k + 4 * l.length := by
  induction l generalizing k with
  | nil => simp [endS]
  | cons a l ih =>
    simp only [endS, List.length_cons]
    have h1 := h a (by simp)
    have := ih (fun x hx => h x (by simp [hx])) (k + a.length)
    omega
def midS (k : Int) (l : List (List Int)) (i : Nat) : List (List Int) := marksS k (l.take i) ++ l.drop i
theorem midS_len (k : Int) (l : List (List Int)) (i : Nat) : (midS k l i).length = l.length := by
  unfold midS; rw [List.length_append, marksS_len, List.length_take, List.length_drop]; omega
theorem midS_get {l : List (List Int)} {i : Nat} {a : List Int} (h : l[i]? = some a) (k : Int) : (midS k l i)[i]? = some a := by
  have hl := (List.getElem?_eq_some_iff.1 h).1
  unfold midS
  rw [List.getElem?_append_right (by rw [marksS_len, List.length_take]; omega), marksS_len, List.length_take, Nat.min_eq_left (by omega), Nat.sub_self, List.getElem?_drop]
  simpa using h
theorem midS_next {l : List (List Int)} {i : Nat} {a : List Int} (h : l[i]? = some a) (k : Int) : (midS k l i).set i (marks (endS k (l.take i)) a.length) = midS k l (i + 1) := by
  have hl := (List.getElem?_eq_some_iff.1 h).1
  have hm : (marksS k (l.take i)).length = i := by rw [marksS_len, List.length_take]; omega
  unfold midS
  rw [take_next h, marksS_app, drop_cons h, List.set_append_right _ _ (by omega), hm, Nat.sub_self, List.set_cons_zero, List.append_assoc]
  rfl
theorem marksS_get {l : List (List Int)} {i : Nat} {a : List Int} (h : l[i]? = some a) (k : Int) : (marksS k l)[i]? = some (marks (endS k (l.take i)) a.length) := by
  have hl := (List.getElem?_eq_some_iff.1 h).1
  have h1 : l = l.take i ++ a :: l.drop (i + 1) := by rw [← drop_cons h, List.take_append_drop]
  conv => lhs; rw [h1, marksS_app]
  rw [List.getElem?_append_right (by rw [marksS_len, List.length_take]; omega), marksS_len, List.length_take, Nat.min_eq_left (by omega), Nat.sub_self]
  rfl

/-- One point is written in its own block. -/
theorem PtsD.turn {own : List Nat} {B : Nat} {X : World} {v : Value} {xss : List (List Int)} (h : PtsD own B X v xss) {i : Nat} {x : List Int} (hi : xss[i]? = some x) :
    ∃ g c, IntsOwn B X (.slice (some ⟨g, 0, none⟩) x.length c) x ∧ g ∈ own ∧ (∀ (o n c' : Nat), v = .slice (some ⟨o, 0, none⟩) n c' → X.cell? ⟨o, i, none⟩ = some (.slice (some ⟨g, 0, none⟩) x.length c)) ∧
      ∀ (X' : World) (y : List Int), y.length = x.length → X.grownBy X' (some g) → IntsOwn B X' (.slice (some ⟨g, 0, none⟩) x.length c) y → PtsD own B X' v (xss.set i y) := by
  obtain ⟨vs, ho, hb, he⟩ := h
  obtain ⟨g, c, h1, h2, h3, h4⟩ := he i x hi
  have hlt := (List.getElem?_eq_some_iff.1 hi).1
  refine ⟨g, c, h2, h3, ?_, ?_⟩
  · rintro o n c' rfl
    have hn' : n = xss.length := by
      rcases ho.2 with ⟨e, _⟩ | ⟨g', cap, cur, e, _⟩
      · cases e
      · cases e; rfl
    subst hn'
    rw [ho.cellAt i (by omega)]; exact h1
  · intro X' y hy hg hw
    have ht : Tag X (some g) 3 := own_tag h2
    have hv : Lv (fun k => k = g) X X' := Lv.grown hg (fun r e _ => (Option.some.inj e).symm)
    refine ⟨vs, by rw [List.length_set]; exact row_tag ho hg ht (by decide), hb, fun j z hj => ?_⟩
    by_cases e : j = i
    · subst e
      rw [List.getElem?_set_self hlt] at hj
      cases hj
      exact ⟨g, c, by rw [hy]; exact h1, by rw [hy]; exact hw, h3, h4⟩
    · rw [List.getElem?_set_ne (fun e' => e e'.symm)] at hj
      obtain ⟨g', c', k1, k2, k3, k4⟩ := he j z hj
      refine ⟨g', c', k1, row_lv k2 hv (fun b hb e' => ?_), k3, k4⟩
      simp only [Value.ownBlock, Option.some.injEq] at hb
      subst e'; subst hb
      rcases Nat.lt_or_gt_of_ne e with hlt | hlt
      · exact h4 j _ _ _ hlt k1 rfl
      · exact k4 i _ _ _ hlt h1 rfl

set_option maxHeartbeats 2000000 in
theorem markIntSS_any (own : List Nat) (B : Nat) (v : Value) (xss : List (List Int)) (k : Int) (w : World) (ho : PtsD own B w v xss) (hl : xss.length ≤ 1000) (h4 : ∀ x ∈ xss, x.length ≤ 4) (hk : 0 ≤ k) (hk1 : k ≤ 1000000) :
    Calls Try.prog 19 #[v, .int .i64 k] w fun e w' => e = .returned (.int .i64 (endS k xss)) ∧ PtsD own B w' v (marksS k xss) ∧ Lv (fun b => b ∈ own) w w' := by
  have hend := endS_four h4 k
  obtain ⟨p, c, rfl⟩ := (ho.at (by omega)).form
  generalize hn : xss.length = n at *
  have HO := Lib.hid ho; have H4 := Lib.hid h4; clear ho h4
  have HN := Lib.hid hn; clear hn
  go_enter Try.func19, Try.ntmps19
  go_wp2
  go_loopw [1, 5] (fun kk i wr => ∃ j : Nat, j ≤ n ∧ i = .int .i64 j ∧ kk = .int .i64 (endS k (xss.take j)) ∧ PtsD own B wr (.slice p n c) (midS k xss j) ∧ Lv (fun b => b ∈ own) w wr) (fun _ i _ => n - (intOf i).toNat)
  case atStart => exact ⟨0, by omega, rfl, by simp [endS], by simpa [midS, marksS] using HO.out, Lv.refl _ w⟩
  case round =>
    obtain ⟨j, hj, rfl, rfl, hown, hg⟩ := hrel
    have hb1 := endS_take k xss j
    have hb2 := endS_ge k (xss.take j)
    generalize hE : endS k (xss.take j) = E at *
    have HE := Lib.hid hE; clear hE
    by_cases hlt : j < n
    · obtain ⟨x, hx⟩ := get_some (xs := xss) (k := j) (by rw [HN.out]; exact hlt)
      have hx4 := H4.out x (List.mem_of_getElem? hx)
      obtain ⟨g, c1, t1, t2, t3, t4⟩ := hown.turn (midS_get hx k)
      obtain ⟨o, rfl⟩ : ∃ o, p = some ⟨o, 0, none⟩ := by
        obtain ⟨vs, ho, _⟩ := hown
        rw [midS_len, HN.out] at ho
        rcases ho.2 with ⟨h, h0⟩ | ⟨o, cap, cur, h, _⟩
        · omega
        · exact ⟨o, by simpa using (Value.slice.inj h).1⟩
      have hcc := t3 o n c rfl
      have HX := Lib.hid hx; have T1 := Lib.hid t1; have T2 := Lib.hid t2; have T4 := Lib.hid t4; have HG := Lib.hid hg; have HW := Lib.hid hown
      clear hx t1 t2 t3 t4 hg hown
      go_wp2_with (fail)
      refine (markIntS_any B (some ⟨g, 0, none⟩) x.length c1 x E wr rfl T1.out (by omega) (by omega)).mono ?_
      rintro e w1 ⟨rfl, h1, h2⟩
      have NX := Lib.hid (T4.out w1 (marks E x.length) (marks_len _ _) h2 (IntsOwn.mk h1 (marks_len _ _)))
      have NL := Lib.hid (HG.out.trans (Lv.grown (D := fun b => b = g) h2 (fun r e _ => (Option.some.inj e).symm)) (E := fun b => b ∈ own) (fun _ _ h => h) (fun b _ h => h ▸ T2.out))
      clear h1 h2 hcc
      go_wp2
      go_roundw
      case rel => exact ⟨j + 1, by omega, by go_num, by rw [endS_next HX.out, HE.out], by have h := NX.out; rw [← HE.out, midS_next HX.out] at h; exact h, NL.out⟩
      case measure => simp [intOf]; omega
    · have e : j = n := by omega
      subst e
      have HW := Lib.hid hown; have HG := Lib.hid hg; clear hown hg
      go_wp2
      go_ret
      have e1 : xss.take j = xss := List.take_of_length_le (by rw [HN.out]; omega)
      refine ⟨by rw [← HE.out, e1]; rfl, ?_, HG.out⟩
      have h := HW.out
      unfold midS at h
      rwa [e1, List.drop_of_length_le (by rw [HN.out]; omega), List.append_nil] at h

set_option maxHeartbeats 2000000 in
theorem heldIntSS_any (v : Value) (xss : List (List Int)) (k : Int) (w : World) (hs : PtsAt w v (marksS k xss)) (hl : xss.length ≤ 1000) (h4 : ∀ x ∈ xss, x.length ≤ 4) (hk : 0 ≤ k) (hk1 : k ≤ 1000000) :
    Calls Try.prog 20 #[v, .int .i64 k] w fun e w' => e = .returned (.int .i64 (endS k xss)) ∧ w = w' := by
  have hend := endS_four h4 k
  obtain ⟨p, c, rfl⟩ := hs.form
  rw [marksS_len] at hs ⊢
  generalize hn : xss.length = n at *
  have HS := Lib.hid hs; have H4 := Lib.hid h4; clear hs h4
  have HN := Lib.hid hn; clear hn
  go_enter Try.func20, Try.ntmps20
  go_wp2
  go_loop [1, 5] (fun kk i => ∃ j : Nat, j ≤ n ∧ i = .int .i64 j ∧ kk = .int .i64 (endS k (xss.take j))) (fun _ i => n - (intOf i).toNat)
  case atStart => exact ⟨0, by omega, rfl, by simp [endS]⟩
  case round =>
    obtain ⟨j, hj, rfl, rfl⟩ := hrel
    have hb1 := endS_take k xss j
    have hb2 := endS_ge k (xss.take j)
    generalize hE : endS k (xss.take j) = E at *
    have HE := Lib.hid hE; clear hE
    by_cases hlt : j < n
    · obtain ⟨x, hx⟩ := get_some (xs := xss) (k := j) (by rw [HN.out]; exact hlt)
      have hx4 := H4.out x (List.mem_of_getElem? hx)
      obtain ⟨b, u, rfl, a0, hb, hr⟩ := HS.out.elem (marksS_get hx k)
      rw [HE.out] at hr
      have HX := Lib.hid hx; have HR := Lib.hid hr; clear hx hr
      have hneg : decide (E + (x.length : Int) < 0) = false := by simp; omega
      go_wp2_with (fail)
      refine (heldIntS_any u x.length E _ HR.out (by omega) (by omega)).mono ?_
      rintro e w1 ⟨rfl, rfl⟩
      go_wp2
      go_round
      case rel => exact ⟨j + 1, by omega, by go_num, by rw [endS_next HX.out, HE.out]⟩
      case measure => simp [intOf]; omega
    · have e : j = n := by omega
      subst e
      go_wp2
      go_ret
      exact ⟨by rw [← HE.out, List.take_of_length_le (by rw [HN.out]; omega)]; rfl, rfl⟩
end Go.Proofs.Ytkcbnkgegopkhaa

namespace Go.Proofs.Ytkcbnkgegopkhaa
open Go.RowKit

theorem PtsD.get {own : List Nat} {B n c i : Nat} {X : World} {p : Option Addr} {xss : List (List Int)} {xs : List Int} (h : PtsD own B X (.slice p n c) xss) (hi : xss[i]? = some xs) :
    ∃ o g c', p = some ⟨o, 0, none⟩ ∧ X.cell? ⟨o, i, none⟩ = some (.slice (some ⟨g, 0, none⟩) xs.length c') ∧ IntsAt X (.slice (some ⟨g, 0, none⟩) xs.length c') xs ∧ xs.length ≤ c' := by
  obtain ⟨vs, ho, _, he⟩ := h
  obtain ⟨g, c', h1, h2, _⟩ := he i xs hi
  have hlt := (List.getElem?_eq_some_iff.1 hi).1
  rcases ho.2 with ⟨e, h0⟩ | ⟨o, cap, cur, e, r⟩
  · omega
  · cases e
    exact ⟨o, g, c', rfl, by rw [ho.cellAt i (by omega)]; exact h1, h2.at, h2.cap⟩
end Go.Proofs.Ytkcbnkgegopkhaa
