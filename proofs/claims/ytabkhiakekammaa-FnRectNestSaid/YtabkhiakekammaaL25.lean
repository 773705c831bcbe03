/- FnRectNest: in a rectangular nest ranges do not depend on the point, the walk. -/
import Derived.Test.YtabkhiakekammaaQ6
import Derived.Test.YtabkhiakekammaaN8
import Derived.Test.YtabkhiakekammaaN14
import Derived.Test.YtabkhiakekammaaOpB
namespace Go.Proofs.Ytabkhiakekammaa
open Go.RowKit Go.ChangeShapes Go.WideShapes Go.ChangeAt Go.Joins

theorem evalK_flat {xs ps : List Int} {c : Int} (h : ∀ i, xs.getD i 0 = 0) : ∀ n, evalK xs ps c n = c
  | 0 => rfl
  | n + 1 => by simp only [evalK]; rw [evalK_flat h n, h n]; simp
theorem depK_zero {xs : List Int} : ∀ n, depK xs n ≤ 0 → ∀ i, i < n → xs.getD i 0 = 0
  | 0, _, i, hi => by omega
  | n + 1, h, i, hi => by
    simp only [depK] at h
    split at h
    · omega
    · rename_i h0
      simp only [ne_eq, Decidable.not_not] at h0
      rcases Nat.lt_or_ge i n with hl | hl
      · exact depK_zero n h i hl
      · rw [show i = n by omega]; exact h0
theorem flatA_zero {a : Aff} (h : flatA a = true) : ∀ i, a.1.getD i 0 = 0 := by
  intro i
  simp only [flatA, decide_eq_true_eq] at h
  rcases Nat.lt_or_ge i a.1.length with hl | hl
  · exact depK_zero _ h i hl
  · rw [List.getD_eq_getElem?_getD, List.getElem?_eq_none hl]; rfl
theorem map_flat {zs : List Aff} (h : zs.all flatA = true) (ps qs : List Int) : zs.map (evalA ps) = zs.map (evalA qs) := by
  refine List.map_congr_left (fun a ha => ?_)
  have h0 := flatA_zero (List.all_eq_true.1 h a ha)
  unfold evalA
  rw [evalK_flat h0, evalK_flat h0]
theorem range_flat {ls : List Lp} {ps qs : List Int} (h : rectB ls = true) (hp : ptB ps = true) (hq : ptB qs = true) (hl : ps.length = qs.length) (hlt : ps.length < ls.length) : ∃ A B, rangeR ls ps = (A, B, true) ∧ rangeR ls qs = (A, B, true) := by
  simp only [rectB, Bool.and_eq_true] at h
  obtain ⟨x, hx⟩ := get_some (xs := ls) (k := ps.length) hlt
  have hf := List.all_eq_true.1 h.1 x (List.mem_of_getElem? hx)
  simp only [flatB, Bool.and_eq_true] at hf
  refine ⟨loV x ps, hiV x ps, rangeR_yes h.2 hp hx, ?_⟩
  rw [rangeR_yes h.2 hq (by rw [← hl]; exact hx)]
  unfold loV hiV
  rw [map_flat hf.1 qs ps, map_flat hf.2 qs ps]
theorem take3_at {w : World} {g k : Nat} {a b c : Int} (h : w.heap[g]? = some (.cells #[.int .i64 a, .int .i64 b, .int .i64 c] 3 (0, 0))) (hk : k ≤ 3) : IntsAt w (.slice (some ⟨g, 0, none⟩) k 3) (([a, b, c] : List Int).take k) := by
  have hl : (([a, b, c] : List Int).take k).length = k := by rw [List.length_take]; simp; omega
  refine ⟨some ⟨g, 0, none⟩, 3, by rw [hl], by rw [hl]; omega, fun i x hi => ⟨g, 0, rfl, ?_⟩⟩
  have hi3 : i < 3 := by have := (List.getElem?_eq_some_iff.1 hi).1; omega
  rw [List.getElem?_take_of_lt (by have := (List.getElem?_eq_some_iff.1 hi).1; omega)] at hi
  match i, hi3, hi with
  | 0, _, hi => simp at hi; subst hi; simp [World.cell?, h]
  | 1, _, hi => simp at hi; subst hi; simp [World.cell?, h]
  | 2, _, hi => simp at hi; subst hi; simp [World.cell?, h]

set_option maxHeartbeats 1600000 in
set_option maxRecDepth 100000 in
theorem walkFnRectNest (v0 v1 : Value) (w : World) (h0 : RBytes w v0) (h1 : RBytes w v1) :
    Calls Try.prog 8 #[v0, v1] w fun e w' => e = .returned (.bool true) ∧ Below w.heap.size w w' := by
  obtain ⟨p0, n0, c0, rfl, hb0, hl0⟩ := h0
  obtain ⟨p1, n1, c1, rfl, hb1, hl1⟩ := h1
  have hm0 := hb0.2.1
  have hm1 := hb1.2.1
  have HB0 := Lib.hid hb0; have HL0 := Lib.hid hl0; have HB1 := Lib.hid hb1; have HL1 := Lib.hid hl1; clear hb0 hl0 hb1 hl1
  by_cases h0 : n0 ≤ 1048576
  · by_cases h1 : n1 ≤ 1048576
    · have hd0 : decide ((1048576 : Int) < n0) = false := by simp; omega
      have hd1 : decide ((1048576 : Int) < n1) = false := by simp; omega
      go_enter Try.func8, Try.ntmps8
      go_wp2_with (fail)
      refine (DrawRectNest_any p0 n0 c0 _ HB0.out HL0.out).mono ?_
      rintro e w1 ⟨⟨q, m, d, ls, rfl, hl, hf, hv⟩, E1⟩
      have HL := Lib.hid hl; have HV := Lib.hid hv; have HE1 := Lib.hid E1
      clear hl hf hv E1
      obtain ⟨b, hb⟩ : ∃ b, rectB ls = b := ⟨_, rfl⟩
      have HB := Lib.hid hb; clear hb
      go_wp2_with (fail)
      refine (RectNest_any (some ⟨q, 0, none⟩) m d ls w1 HL.out HV.out).mono ?_
      rw [HB.out]
      rintro e w2 ⟨rfl, hE⟩
      have F2 := Lib.hid hE; clear hE
      go_wp2_with (fail)
      refine (specRectNest_any (some ⟨q, 0, none⟩) m d ls w2 HL.out (HV.out.ext F2.out)).mono ?_
      rw [HB.out]
      rintro e w3 ⟨rfl, hE⟩
      have F3 := Lib.hid (F2.out.trans hE); clear hE F2
      cases b with
      | false =>
        go_wp2_with (fail)
        refine (specRectNest_any (some ⟨q, 0, none⟩) m d ls w3 HL.out (HV.out.ext F3.out)).mono ?_
        rw [HB.out]
        rintro e w4 ⟨rfl, hE⟩
        have F4 := Lib.hid (HE1.out.trans (F3.out.trans hE)); clear hE
        go_wp2
        go_ret
        exact ⟨rfl, F4.out⟩
      | true =>
        have hnb : nestB ls = true := by have h := HB.out; simp only [rectB, Bool.and_eq_true] at h; exact h.2
        have HNB := Lib.hid hnb
        have hm4 : m ≤ 4 := by have := (nestB_iff.1 hnb).1; rw [HL.out] at this; exact this
        clear hnb
        by_cases hm0 : m = 0
        · subst hm0
          go_wp2_with (fail)
          refine (specRectNest_any (some ⟨q, 0, none⟩) 0 d ls w3 HL.out (HV.out.ext F3.out)).mono ?_
          rw [HB.out]
          rintro e w4 ⟨rfl, hE⟩
          have F4 := Lib.hid (F3.out.trans hE); clear hE
          go_wp2_with (fail)
          refine (NestValid_any (some ⟨q, 0, none⟩) 0 d ls w4 HL.out (HV.out.ext F4.out)).mono ?_
          rw [HNB.out]
          rintro e w5 ⟨rfl, hE⟩
          have F5 := Lib.hid (HE1.out.trans (F4.out.trans hE)); clear hE
          go_wp2
          go_ret
          exact ⟨rfl, F5.out⟩
        have hmb : ((m : Int) == 0) = false := by simp [hm0]
        obtain ⟨k, hk⟩ : ∃ k, n1 % m = k := ⟨_, rfl⟩
        have hkm : k < m := by rw [← hk]; exact Nat.mod_lt _ (by omega)
        have hk3 : k ≤ 3 := by omega
        have hmod : (n1 : Int) % (m : Int) = (k : Int) := by rw [← hk]; rfl
        have hk0i : (0 : Int) ≤ (k : Int) := by omega
        have hk3i : (k : Int) ≤ 3 := by omega
        clear hk
        have HP := Lib.hid (take3_at (w := ((w3.alloc (.cells #[.int .i64 1, .int .i64 2, .int .i64 3] 3)).alloc (.cells #[.int .i64 4, .int .i64 0, .int .i64 9] 3))) (g := w3.heap.size) (blk_old (blk_at rfl)) hk3); have HQ := Lib.hid (take3_at (w := ((w3.alloc (.cells #[.int .i64 1, .int .i64 2, .int .i64 3] 3)).alloc (.cells #[.int .i64 4, .int .i64 0, .int .i64 9] 3))) (g := w3.heap.size + 1) (blk_at (by simp)) hk3)
        have EV : Ext w3 ((w3.alloc (.cells #[.int .i64 1, .int .i64 2, .int .i64 3] 3)).alloc (.cells #[.int .i64 4, .int .i64 0, .int .i64 9] 3)) := ((Ext.refl w3).alloc _).alloc _
        have F4 := Lib.hid (F3.out.trans EV); clear EV
        have hlp : (([1, 2, 3] : List Int).take k).length = k := by rw [List.length_take]; simp; omega
        have hlq : (([4, 0, 9] : List Int).take k).length = k := by rw [List.length_take]; simp; omega
        have hpp : ptB (([1, 2, 3] : List Int).take k) = true := by match k, hk3 with | 0, _ => decide | 1, _ => decide | 2, _ => decide | 3, _ => decide
        have hpq : ptB (([4, 0, 9] : List Int).take k) = true := by match k, hk3 with | 0, _ => decide | 1, _ => decide | 2, _ => decide | 3, _ => decide
        obtain ⟨A, B, hA, hB⟩ := range_flat HB.out hpp hpq (by rw [hlp, hlq]) (by rw [hlp, HL.out]; exact hkm)
        have HA := Lib.hid hA; have HBB := Lib.hid hB; clear hA hB hlp hlq hpp hpq
        go_wp2_with (fail)
        generalize ((w3.alloc (.cells #[.int .i64 1, .int .i64 2, .int .i64 3] 3)).alloc (.cells #[.int .i64 4, .int .i64 0, .int .i64 9] 3)) = V at *
        refine (LoopRange_any (some ⟨q, 0, none⟩) m d ls _ _ V HL.out (HV.out.ext F4.out) HP.out).mono ?_
        rw [HA.out]
        rintro e w5 ⟨rfl, hE⟩
        have F5 := Lib.hid (F4.out.trans hE); have HQ5 := Lib.hid (HQ.out.ext hE); clear hE
        go_wp2_with (fail)
        refine (LoopRange_any (some ⟨q, 0, none⟩) m d ls _ _ w5 HL.out (HV.out.ext F5.out) HQ5.out).mono ?_
        rw [HBB.out]
        rintro e w6 ⟨rfl, hE⟩
        have F6 := Lib.hid (HE1.out.trans (F5.out.trans hE)); clear hE
        go_wp2
        go_ret
        exact ⟨rfl, F6.out⟩
    · have hd0 : decide ((1048576 : Int) < n0) = false := by simp; omega
      have hd1 : decide ((1048576 : Int) < n1) = true := by simp; omega
      go_enter Try.func8, Try.ntmps8
      go_wp2
      go_ret
      exact ⟨rfl, Ext.refl w⟩
  · have hd0 : decide ((1048576 : Int) < n0) = true := by simp; omega
    go_enter Try.func8, Try.ntmps8
    go_wp2
    go_ret
    exact ⟨rfl, Ext.refl w⟩
end Go.Proofs.Ytabkhiakekammaa
