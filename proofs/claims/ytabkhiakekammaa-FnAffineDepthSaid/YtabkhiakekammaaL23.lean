/- FnAffineDepth: variables behind the depth do not matter, the walk. -/
import Derived.Test.YtabkhiakekammaaD11
import Derived.Test.YtabkhiakekammaaA19
import Derived.Test.YtabkhiakekammaaA18
import Derived.Test.YtabkhiakekammaaOpB
namespace Go.Proofs.Ytabkhiakekammaa
open Go.RowKit Go.ChangeShapes Go.WideShapes Go.ChangeAt Go.Joins

theorem wpAnyH_takeD {P : Program} {md : Region.Mode} {ops : Array Oper} {Q : Exit → Act → World → Prop} {S : World → Prop} {i : Nat} {oi : Oper} {v : Value} {fuel : Nat} {listed : Array Bool} {a : Act} {w : World} (d : Option Nat) (hi : ops[i]? = some oi) (hd : oi.dst = d)
    (hs : Region.noSelect ops = true) (hf : Region.free md ops listed i = true) (hr : (Region.ready md ops listed).contains i = true)
    (hQ : ∀ c a w, Q (.panic c) (a.put d v) w → Q (.panic c) a w) (hy : YieldsIf P ops S oi v a) (hS : S w)
    (h : wpAnyH P md ops Q S fuel (listed.setIfInBounds i true) (a.put d v) w) : wpAnyH P md ops Q S (fuel + 1) listed a w := by
  subst hd
  exact wpAnyH_take hi hs hf hr hQ hy hS h
/-- The second point, r places of it written. -/
def qL (N r : Nat) (m : Int) : List Int := (List.range 4).map (fun t => if N ≤ t ∧ t < r then m else (t : Int) + 1)
theorem qL_start (N : Nat) (m : Int) : qL N N m = [1, 2, 3, 4] := by
  have : ∀ t, ¬ (N ≤ t ∧ t < N) := fun t h => by omega
  simp [qL, List.range_succ, this]
theorem qL_next (N r : Nat) (m : Int) (h : N ≤ r) (h4 : r < 4) : (qL N r m).set r m = qL N (r + 1) m := by
  match r, h4 with
  | 0, _ => simp [qL, List.range_succ, show N = 0 by omega]
  | 1, _ => simp [qL, List.range_succ]; omega
  | 2, _ => simp [qL, List.range_succ]; omega
  | 3, _ => simp [qL, List.range_succ]; omega
theorem dep_eval {a b c d k m : Int} {N : Nat} (h : dep4 a b c d = (N : Int)) (h0 : 0 ≤ m) (h1 : m < 50) : evalR [a, b, c, d] k (qL N 4 m) = evalR [a, b, c, d] k [1, 2, 3, 4] := by
  have p1 : ptB [1, 2, 3, 4] = true := by decide
  have p2 : ptB (qL N 4 m) = true := by
    simp only [ptB, qL, List.length_map, List.length_range, Nat.le_refl, decide_true, Bool.true_and, List.all_map, List.all_eq_true, List.mem_range, Function.comp, withinB, decide_eq_true_eq]
    intro t ht; split <;> omega
  unfold evalR
  rw [p1, p2]
  split
  · unfold dep4 at h
    split at h
    · obtain rfl : N = 4 := by omega
      rfl
    · rename_i hd
      simp only [ne_eq, Decidable.not_not] at hd
      subst hd
      split at h
      · obtain rfl : N = 3 := by omega
        simp [qL, List.range_succ, evalK]
      · rename_i hc
        simp only [ne_eq, Decidable.not_not] at hc
        subst hc
        split at h
        · obtain rfl : N = 2 := by omega
          simp [qL, List.range_succ, evalK]
        · rename_i hb
          simp only [ne_eq, Decidable.not_not] at hb
          subst hb
          split at h
          · obtain rfl : N = 1 := by omega
            simp [qL, List.range_succ, evalK]
          · rename_i ha
            simp only [ne_eq, Decidable.not_not] at ha
            subst ha
            obtain rfl : N = 0 := by omega
            simp [qL, List.range_succ, evalK]
  · rfl
theorem dep4_le (a b c d : Int) : 0 ≤ dep4 a b c d ∧ dep4 a b c d ≤ 4 := by
  unfold dep4
  repeat (first | omega | split)
theorem dep4_last {a b c d : Int} {N : Nat} (h : dep4 a b c d = ((N + 1 : Nat) : Int)) : ∃ y, [a, b, c, d][N]? = some y ∧ y ≠ 0 := by
  unfold dep4 at h
  split at h
  · obtain rfl : N = 3 := by omega
    exact ⟨d, rfl, by assumption⟩
  · split at h
    · obtain rfl : N = 2 := by omega
      exact ⟨c, rfl, by assumption⟩
    · split at h
      · obtain rfl : N = 1 := by omega
        exact ⟨b, rfl, by assumption⟩
      · split at h
        · obtain rfl : N = 0 := by omega
          exact ⟨a, rfl, by assumption⟩
        · omega

set_option maxHeartbeats 1600000 in
set_option maxRecDepth 100000 in
theorem walkFnAffineDepth (v0 v1 : Value) (w : World) (h0 : RBytes w v0) (h1 : RBytes w v1) :
    Calls Try.prog 6 #[v0, v1] w fun e w' => e = .returned (.bool true) ∧ Below w.heap.size w w' := by
  obtain ⟨p0, n0, c0, rfl, hb0, hl0⟩ := h0
  obtain ⟨p1, n1, c1, rfl, hb1, hl1⟩ := h1
  have hm0 := hb0.2.1
  have hm1 := hb1.2.1
  have HB0 := Lib.hid hb0; have HL0 := Lib.hid hl0; have HB1 := Lib.hid hb1; have HL1 := Lib.hid hl1; clear hb0 hl0 hb1 hl1
  by_cases h0 : n0 ≤ 1048576
  · by_cases h1 : n1 ≤ 1048576
    · have hd0 : decide ((1048576 : Int) < n0) = false := by simp; omega
      have hd1 : decide ((1048576 : Int) < n1) = false := by simp; omega
      go_enter Try.func6, Try.ntmps6
      go_wp2_with (fail)
      refine (DrawAffineDepth_any p0 n0 c0 _ HB0.out HL0.out).mono ?_
      rintro e w1 ⟨⟨u, k, xs, rfl, hx⟩, E1⟩
      obtain ⟨pu, cu, rfl, -, -⟩ := id hx
      have E2 : Ext w1 (w1.alloc (.cells #[.slice pu xs.length cu, .int .i64 k] 25)) := (Ext.refl w1).alloc _
      have HX_0 := Lib.hid (hx.ext E2)
      have A_0 : Hid ((w1.alloc (.cells #[.slice pu xs.length cu, .int .i64 k] 25)).heap[w1.heap.size]? = some (.cells #[.slice pu xs.length cu, .int .i64 k] 25 (0, 0))) := Lib.hid (blk_at rfl)
      have HE1 := Lib.hid (E1.trans E2)
      clear E2 hx E1
      obtain ⟨D, hD⟩ : ∃ D, depR xs k = D := ⟨_, rfl⟩
      have HD := Lib.hid hD; clear hD
      obtain ⟨A0, A1, -, -⟩ := blk2 A_0.out
      go_wp2_with (fail)
      generalize (w1.alloc (.cells #[.slice pu xs.length cu, .int .i64 k] 25)) = W2 at *
      generalize w1.heap.size = ga at *
      refine (AffineDepth_any (.slice pu xs.length cu) xs k _ HX_0.out).mono ?_
      rw [HD.out]
      rintro e w3 ⟨rfl, hE⟩
      clear A0 A1
      have A_1 := Lib.hid ((hE).blk A_0.out)
      have HX_1 := Lib.hid (HX_0.out.ext (hE))
      have HE_1 := Lib.hid (HE1.out.trans (hE))
      clear A_0 HX_0 HE1
      clear hE
      obtain ⟨A0, A1, -, -⟩ := blk2 A_1.out
      go_wp2_with (fail)
      refine (specAffineDepth_any (.slice pu xs.length cu) xs k _ HX_1.out).mono ?_
      rw [HD.out]
      rintro e w4 ⟨rfl, hE⟩
      clear A0 A1
      have A_2 := Lib.hid ((hE).blk A_1.out)
      have HX_2 := Lib.hid (HX_1.out.ext (hE))
      have HE_2 := Lib.hid (HE_1.out.trans (hE))
      clear A_1 HX_1 HE_1
      clear hE
      cases hva : affValidB xs k with
      | false =>
        have HVA := Lib.hid hva; clear hva
        obtain ⟨A0, A1, -, -⟩ := blk2 A_2.out
        go_wp2_with (fail)
        refine (AffineValid_any (.slice pu xs.length cu) xs k _ HX_2.out).mono ?_
        rw [HVA.out]
        rintro e w5 ⟨rfl, hE⟩
        clear A0 A1
        have A_3 := Lib.hid ((hE).blk A_2.out)
        have HX_3 := Lib.hid (HX_2.out.ext (hE))
        have HE_3 := Lib.hid (HE_2.out.trans (hE))
        clear A_2 HX_2 HE_2
        clear hE
        obtain ⟨A0, A1, -, -⟩ := blk2 A_3.out
        go_wp2_with (fail)
        refine (specAffineDepth_any (.slice pu xs.length cu) xs k _ HX_3.out).mono ?_
        rw [HD.out]
        rintro e w6 ⟨rfl, hE⟩
        clear A0 A1
        have A_4 := Lib.hid ((hE).blk A_3.out)
        have HX_4 := Lib.hid (HX_3.out.ext (hE))
        have HE_4 := Lib.hid (HE_3.out.trans (hE))
        clear A_3 HX_3 HE_3
        clear hE
        go_wp2
        go_ret
        exact ⟨rfl, HE_4.out⟩
      | true =>
        obtain ⟨a, b, c, d, rfl, -⟩ := valid_four hva
        have HVA := Lib.hid hva; clear hva
        have hDN : dep4 a b c d = D := by have e := HD.out; unfold depR at e; rw [if_pos HVA.out] at e; exact e
        have hDb := dep4_le a b c d
        rw [hDN] at hDb
        obtain ⟨N, rfl⟩ := Int.eq_ofNat_of_zero_le hDb.1
        have hN4 : N ≤ 4 := by omega
        have HDN := Lib.hid hDN; clear hDN hDb HD
        obtain ⟨A0, A1, -, -⟩ := blk2 A_2.out
        go_wp2_with (fail)
        refine (AffineValid_any (.slice pu [a, b, c, d].length cu) [a, b, c, d] k _ HX_2.out).mono ?_
        rw [HVA.out]
        rintro e w5 ⟨rfl, hE⟩
        clear A0 A1
        have A_3 := Lib.hid ((hE).blk A_2.out)
        have HX_3 := Lib.hid (HX_2.out.ext (hE))
        have HE_3 := Lib.hid (HE_2.out.trans (hE))
        clear A_2 HX_2 HE_2
        clear hE
        have hM : 0 ≤ (n1 : Int) % 50 ∧ (n1 : Int) % 50 < 50 := by omega
        have HP0 : Hid ((w5.alloc (.cells #[.int .i64 1, .int .i64 2, .int .i64 3, .int .i64 4] 3)).ownsRow w5.heap.size 3 1 (.slice (some ⟨w5.heap.size, 0, none⟩) 4 4) 4 (([1, 2, 3, 4] : List Int).map (Value.int .i64))) := Lib.hid (World.ownsRow_lit w5 #[.int .i64 1, .int .i64 2, .int .i64 3, .int .i64 4] 4 (Nat.le_refl _) (by unfold maxLen; omega) rfl)
        have HQ0 : Hid (((w5.alloc (.cells #[.int .i64 1, .int .i64 2, .int .i64 3, .int .i64 4] 3)).alloc (.cells #[.int .i64 1, .int .i64 2, .int .i64 3, .int .i64 4] 3)).ownsRow (w5.heap.size + 1) 3 1 (.slice (some ⟨w5.heap.size + 1, 0, none⟩) 4 4) 4 (([1, 2, 3, 4] : List Int).map (Value.int .i64))) := by
          have h : ((w5.alloc (.cells #[.int .i64 1, .int .i64 2, .int .i64 3, .int .i64 4] 3)).alloc (.cells #[.int .i64 1, .int .i64 2, .int .i64 3, .int .i64 4] 3)).ownsRow (w5.alloc (.cells #[.int .i64 1, .int .i64 2, .int .i64 3, .int .i64 4] 3)).heap.size 3 1 (.slice (some ⟨(w5.alloc (.cells #[.int .i64 1, .int .i64 2, .int .i64 3, .int .i64 4] 3)).heap.size, 0, none⟩) 4 4) 4 (([1, 2, 3, 4] : List Int).map (Value.int .i64)) := World.ownsRow_lit (w5.alloc (.cells #[.int .i64 1, .int .i64 2, .int .i64 3, .int .i64 4] 3)) #[.int .i64 1, .int .i64 2, .int .i64 3, .int .i64 4] 4 (Nat.le_refl _) (by unfold maxLen; omega) rfl
          rw [World.size_alloc] at h
          exact Lib.hid h
        have HP1 := Lib.hid (HP0.out.alloc (.cells #[.int .i64 1, .int .i64 2, .int .i64 3, .int .i64 4] 3)); clear HP0
        have HE0 : Hid (Ext w5 ((w5.alloc (.cells #[.int .i64 1, .int .i64 2, .int .i64 3, .int .i64 4] 3)).alloc (.cells #[.int .i64 1, .int .i64 2, .int .i64 3, .int .i64 4] 3))) := Lib.hid (((Ext.refl w5).alloc _).alloc _)
        have hlt5 : w5.heap.size < w5.heap.size + 1 := by omega
        go_wp2_with (fail)
        generalize (w5.alloc (.cells #[.int .i64 1, .int .i64 2, .int .i64 3, .int .i64 4] 3)).alloc (.cells #[.int .i64 1, .int .i64 2, .int .i64 3, .int .i64 4] 3) = W6 at *
        generalize hgp : w5.heap.size = gp at *
        have HGP := Lib.hid hgp; clear hgp
        go_loopw [9] (fun i wr => ∃ r : Nat, N ≤ r ∧ r ≤ 4 ∧ i = .int .i64 r ∧ wr.ownsRow (gp + 1) 3 1 (.slice (some ⟨gp + 1, 0, none⟩) 4 4) 4 ((qL N r ((n1 : Int) % 50)).map (Value.int .i64)) ∧ wr.ownsRow gp 3 1 (.slice (some ⟨gp, 0, none⟩) 4 4) 4 (([1, 2, 3, 4] : List Int).map (Value.int .i64)) ∧ Ext w5 wr) (fun i _ => 4 - (intOf i).toNat)
        case atStart => exact ⟨N, Nat.le_refl _, hN4, rfl, by rw [qL_start]; exact HQ0.out, HP1.out, HE0.out⟩
        case round =>
          obtain ⟨r, hr1, hr2, rfl, hq, hp, hE⟩ := hrel
          clear HQ0 HP1 HE0
          by_cases hlt : r < 4
          · have hdl : decide ((r : Int) < 4) = true := by simp; omega
            have hf := hq.frozenAt r
            obtain ⟨u0, hu⟩ : ∃ u, wr.cell? ⟨gp + 1, r, none⟩ = some u := by rw [hq.cellAt r (by omega)]; exact get_some (by simp [qL]; omega)
            have hst := (hq.stored r (.int .i64 ((n1 : Int) % 50))).1
            rw [← List.map_set, qL_next N r _ hr1 hlt] at hst
            have HS := Lib.hid hst; have HPP := Lib.hid (ownsRow_off (o := r) (b := gp + 1) hp (by omega) (.int .i64 ((n1 : Int) % 50))); have HEE := Lib.hid (hE.setAt (g := gp + 1) (o := r) (by have := HGP.out; omega) (.int .i64 ((n1 : Int) % 50)))
            clear hst hq hp hE
            have hr0 : (0 : Int) ≤ (r : Int) := by omega
            have hri : (r : Int) < 4 := by omega
            go_wp2
            go_roundw
            case rel => exact ⟨r + 1, by omega, by omega, by go_num, HS.out, HPP.out, HEE.out⟩
            case measure => simp [intOf]; omega
          · obtain rfl : r = 4 := by omega
            have HQI := Lib.hid (row_at hq (by simp [qL])); have HPI := Lib.hid (row_at hp rfl)
            clear hq hp hlt hr1 hr2
            have A_4 := Lib.hid ((hE).blk A_3.out)
            have HX_4 := Lib.hid (HX_3.out.ext (hE))
            have HE_4 := Lib.hid (HE_3.out.trans (hE))
            clear A_3 HX_3 HE_3
            clear hE
            have HDE := Lib.hid (dep_eval (k := k) HDN.out hM.1 hM.2)
            generalize (n1 : Int) % 50 = m at *
            obtain ⟨E, hEv⟩ : ∃ E, evalR [a, b, c, d] k [1, 2, 3, 4] = E := ⟨_, rfl⟩
            rw [hEv] at HDE
            have HEV := Lib.hid hEv; clear hEv
            obtain ⟨A0, A1, -, -⟩ := blk2 A_4.out
            obtain ⟨_, _⟩ : True ∧ True := ⟨trivial, trivial⟩
            by_cases hN : N = 0
            · subst hN
              go_wp2_with (fail)
              refine wp_region_held_drew (S := (fun W' => W'.cell? ⟨ga, 0, none⟩ = some (.slice pu 4 cu) ∧ W'.cell? ⟨ga, 1, none⟩ = some (.int .i64 k))) (by kernel_rfl) ⟨A0, A1⟩ (fun hHeld => ?_)
              refine wpAnyH_takeD (some 48) (i := 0) (v := ?v0) rfl (by kernel_rfl) (by kernel_rfl) (by kernel_rfl) (by kernel_rfl) (fun _ _ _ h => h) (Or.inl ⟨by rfl, ?hy0⟩) (by assumption) ?r0
              case hy0 => intro w hSw; (try dsimp only at hSw); go_simp; first | done | with_reducible rfl
              case' r0 => try simp only [Act.put, List.setIfInBounds_toArray, List.set_cons_zero, List.set_cons_succ]
              refine wpAnyH_takeD (some 49) (i := 1) (v := ?v1) rfl (by kernel_rfl) (by kernel_rfl) (by kernel_rfl) (by kernel_rfl) (fun _ _ _ h => h) (Or.inl ⟨by rfl, ?hy1⟩) (by assumption) ?r1
              case hy1 => intro w hSw; (try dsimp only at hSw); go_simp; first | done | with_reducible rfl
              case' r1 => try simp only [Act.put, List.setIfInBounds_toArray, List.set_cons_zero, List.set_cons_succ]
              refine wpAnyH_takeD (some 51) (i := 3) (v := ?v3) rfl (by kernel_rfl) (by kernel_rfl) (by kernel_rfl) (by kernel_rfl) (fun _ _ _ h => h) (Or.inl ⟨by rfl, ?hy3⟩) (by assumption) ?r3
              case hy3 => intro w hSw; (try dsimp only at hSw); go_simp; first | done | with_reducible rfl
              case' r3 => try simp only [Act.put, List.setIfInBounds_toArray, List.set_cons_zero, List.set_cons_succ]
              refine wpAnyH_takeD (some 52) (i := 4) (v := ?v4) rfl (by kernel_rfl) (by kernel_rfl) (by kernel_rfl) (by kernel_rfl) (fun _ _ _ h => h) (Or.inl ⟨by rfl, ?hy4⟩) (by assumption) ?r4
              case hy4 => intro w hSw; (try dsimp only at hSw); go_simp; first | done | with_reducible rfl
              case' r4 => try simp only [Act.put, List.setIfInBounds_toArray, List.set_cons_zero, List.set_cons_succ]
              refine wpAnyH_ready (rs := [2]) (by kernel_rfl) (by simp) ?_
              refine AllReadyH.cons rfl (fun K hK => ?_) AllReadyH.nil
              go_simp
              refine (EvalAffine_any (.slice pu 4 cu) (.slice (some ⟨gp, 0, none⟩) 4 4) [a, b, c, d] [1, 2, 3, 4] k _ (HX_4.out.ext (Ext.refl wr).drew) (HPI.out.ext (Ext.refl wr).drew)).mono ?_
              rw [HEV.out]
              rintro e x1 ⟨rfl, hx1⟩
              have g1 : Ext wr x1 := (Ext.refl wr).drew.trans hx1
              refine hK.out _ _ ⟨g1.keep A0, g1.keep A1⟩ (fun hHeld2 => ?_)
              clear hK K
              try simp only [Act.put, List.setIfInBounds_toArray, List.set_cons_zero, List.set_cons_succ]
              refine wpAnyH_ready (rs := [5]) (by kernel_rfl) (by simp) ?_
              refine AllReadyH.cons rfl (fun K hK => ?_) AllReadyH.nil
              go_simp
              refine (EvalAffine_any (.slice pu 4 cu) (.slice (some ⟨gp + 1, 0, none⟩) 4 4) [a, b, c, d] (qL 0 4 m) k _ (HX_4.out.ext g1) (HQI.out.ext g1)).mono ?_
              rw [HDE.out]
              rintro e x2 ⟨rfl, hx2⟩
              have g2 : Ext wr x2 := g1.trans hx2
              refine hK.out _ _ ⟨g2.keep A0, g2.keep A1⟩ (fun hHeld5 => ?_)
              clear hK K
              try simp only [Act.put, List.setIfInBounds_toArray, List.set_cons_zero, List.set_cons_succ]
              refine wpAnyH_takeD (some 54) (i := 6) (v := ?v6) rfl (by kernel_rfl) (by kernel_rfl) (by kernel_rfl) (by kernel_rfl) (fun _ _ _ h => h) (Or.inl ⟨by rfl, ?hy6⟩) (by assumption) ?r6
              case hy6 => intro w hSw; (try dsimp only at hSw); go_simp; first | done | with_reducible rfl
              case' r6 => try simp only [Act.put, List.setIfInBounds_toArray, List.set_cons_zero, List.set_cons_succ]
              refine wpAnyH_takeD (some 55) (i := 7) (v := ?v7) rfl (by kernel_rfl) (by kernel_rfl) (by kernel_rfl) (by kernel_rfl) (fun _ _ _ h => h) (Or.inl ⟨by rfl, ?hy7⟩) (by assumption) ?r7
              case hy7 => intro w hSw; (try dsimp only at hSw); go_simp; first | done | with_reducible rfl
              case' r7 => try simp only [Act.put, List.setIfInBounds_toArray, List.set_cons_zero, List.set_cons_succ]
              refine wpAnyH_takeD (some 56) (i := 8) (v := ?v8) rfl (by kernel_rfl) (by kernel_rfl) (by kernel_rfl) (by kernel_rfl) (fun _ _ _ h => h) (Or.inl ⟨by rfl, ?hy8⟩) (by assumption) ?r8
              case hy8 => intro w hSw; (try dsimp only at hSw); go_simp; first | done | with_reducible rfl
              case' r8 => try simp only [Act.put, List.setIfInBounds_toArray, List.set_cons_zero, List.set_cons_succ]
              refine wpAnyH_takeD (some 57) (i := 9) (v := ?v9) rfl (by kernel_rfl) (by kernel_rfl) (by kernel_rfl) (by kernel_rfl) (fun _ _ _ h => h) (Or.inl ⟨by rfl, ?hy9⟩) (by assumption) ?r9
              case hy9 => intro w hSw; (try dsimp only at hSw); go_simp; first | done | with_reducible rfl
              case' r9 => try simp only [Act.put, List.setIfInBounds_toArray, List.set_cons_zero, List.set_cons_succ]
              refine wpAnyH_takeD (some 58) (i := 10) (v := ?v10) rfl (by kernel_rfl) (by kernel_rfl) (by kernel_rfl) (by kernel_rfl) (fun _ _ _ h => h) (Or.inl ⟨by rfl, ?hy10⟩) (by assumption) ?r10
              case hy10 => intro w hSw; (try dsimp only at hSw); go_simp; first | done | with_reducible rfl
              case' r10 => try simp only [Act.put, List.setIfInBounds_toArray, List.set_cons_zero, List.set_cons_succ]
              refine wpAnyH_takeD (some 59) (i := 11) (v := undef) rfl (by kernel_rfl) (by kernel_rfl) (by kernel_rfl) (by kernel_rfl) (fun _ _ _ h => h) (Or.inr ⟨by kernel_rfl, rfl⟩) (by assumption) ?_
              try simp only [Act.put, List.setIfInBounds_toArray, List.set_cons_zero, List.set_cons_succ]
              refine wpAnyH_takeD (some 60) (i := 12) (v := undef) rfl (by kernel_rfl) (by kernel_rfl) (by kernel_rfl) (by kernel_rfl) (fun _ _ _ h => h) (Or.inr ⟨by kernel_rfl, rfl⟩) (by assumption) ?_
              try simp only [Act.put, List.setIfInBounds_toArray, List.set_cons_zero, List.set_cons_succ]
              refine wpAnyH_takeD (some 61) (i := 13) (v := undef) rfl (by kernel_rfl) (by kernel_rfl) (by kernel_rfl) (by kernel_rfl) (fun _ _ _ h => h) (Or.inr ⟨by kernel_rfl, rfl⟩) (by assumption) ?_
              try simp only [Act.put, List.setIfInBounds_toArray, List.set_cons_zero, List.set_cons_succ]
              refine wpAnyH_takeD (some 62) (i := 14) (v := undef) rfl (by kernel_rfl) (by kernel_rfl) (by kernel_rfl) (by kernel_rfl) (fun _ _ _ h => h) (Or.inr ⟨by kernel_rfl, rfl⟩) (by assumption) ?_
              try simp only [Act.put, List.setIfInBounds_toArray, List.set_cons_zero, List.set_cons_succ]
              refine wpAnyH_takeD (some 63) (i := 15) (v := undef) rfl (by kernel_rfl) (by kernel_rfl) (by kernel_rfl) (by kernel_rfl) (fun _ _ _ h => h) (Or.inr ⟨by kernel_rfl, rfl⟩) (by assumption) ?_
              try simp only [Act.put, List.setIfInBounds_toArray, List.set_cons_zero, List.set_cons_succ]
              refine wpAnyH_takeD (some 64) (i := 16) (v := undef) rfl (by kernel_rfl) (by kernel_rfl) (by kernel_rfl) (by kernel_rfl) (fun _ _ _ h => h) (Or.inr ⟨by kernel_rfl, rfl⟩) (by assumption) ?_
              try simp only [Act.put, List.setIfInBounds_toArray, List.set_cons_zero, List.set_cons_succ]
              refine wpAnyH_takeD (some 65) (i := 17) (v := undef) rfl (by kernel_rfl) (by kernel_rfl) (by kernel_rfl) (by kernel_rfl) (fun _ _ _ h => h) (Or.inr ⟨by kernel_rfl, rfl⟩) (by assumption) ?_
              try simp only [Act.put, List.setIfInBounds_toArray, List.set_cons_zero, List.set_cons_succ]
              refine wpAnyH_takeD (some 66) (i := 18) (v := ?v18) rfl (by kernel_rfl) (by kernel_rfl) (by kernel_rfl) (by kernel_rfl) (fun _ _ _ h => h) (Or.inl ⟨by rfl, ?hy18⟩) (by assumption) ?r18
              case hy18 => intro w hSw; (try dsimp only at hSw); go_simp; first | done | with_reducible rfl
              case' r18 => try simp only [Act.put, List.setIfInBounds_toArray, List.set_cons_zero, List.set_cons_succ]
              refine wpAnyH_takeD (some 67) (i := 19) (v := ?v19) rfl (by kernel_rfl) (by kernel_rfl) (by kernel_rfl) (by kernel_rfl) (fun _ _ _ h => h) (Or.inl ⟨by rfl, ?hy19⟩) (by assumption) ?r19
              case hy19 => intro w hSw; (try dsimp only at hSw); go_simp; first | done | with_reducible rfl
              case' r19 => try simp only [Act.put, List.setIfInBounds_toArray, List.set_cons_zero, List.set_cons_succ]
              refine wpAnyH_takeD (some 4) (i := 20) (v := ?v20) rfl (by kernel_rfl) (by kernel_rfl) (by kernel_rfl) (by kernel_rfl) (fun _ _ _ h => h) (Or.inl ⟨by rfl, ?hy20⟩) (by assumption) ?r20
              case hy20 => intro w hSw; (try dsimp only at hSw); go_simp; first | done | with_reducible rfl
              case' r20 => try simp only [Act.put, List.setIfInBounds_toArray, List.set_cons_zero, List.set_cons_succ]
              refine wpAnyH_done (by kernel_rfl) ?_ _
              have HEF := Lib.hid (HE_4.out.trans g2)
              go_wp2
              go_ret
              exact ⟨rfl, HEF.out⟩
            · obtain ⟨M, rfl⟩ : ∃ M, N = M + 1 := ⟨N - 1, by omega⟩
              obtain ⟨y, hyM, hy0⟩ := dep4_last HDN.out
              obtain ⟨pe, ce, hpe, -, hce⟩ := id HX_4.out
              simp only [Value.slice.injEq, true_and] at hpe
              obtain ⟨rfl, rfl⟩ := hpe
              obtain ⟨bx, ox, rfl, hck⟩ := hce M y hyM
              clear hce hyM
              have hyb : (y != 0) = true := by simp [hy0]
              have hM4 : M < 4 := by omega
              clear hN hy0
              have HX4 : Hid (IntsAt wr (.slice (some ⟨bx, ox, none⟩) 4 cu) [a, b, c, d]) := Lib.hid HX_4.out
              have hsub : IntKind.i64.wrap (((M + 1 : Nat) : Int) - 1) = (M : Int) := by simp [IntKind.wrap, IntKind.bits, IntKind.signed]; omega
              have hn0 : (((M + 1 : Nat) : Int) == 0) = false := by simp; omega
              have hsub2 : IntKind.i64.wrap ((M : Int) + 1 - 1) = (M : Int) := by simp [IntKind.wrap, IntKind.bits, IntKind.signed]; omega
              have hsub3 : IntKind.i64.wrap (M : Int) = (M : Int) := by simp [IntKind.wrap, IntKind.bits, IntKind.signed]; omega
              have hMp : (0 : Int) ≤ (M : Int) := by omega
              have hMi : (M : Int) < 4 := by omega
              go_wp2_with (fail)
              go_region_held3 (fun W' => W'.cell? ⟨ga, 0, none⟩ = some (.slice (some ⟨bx, ox, none⟩) 4 cu) ∧ W'.cell? ⟨ga, 1, none⟩ = some (.int .i64 k) ∧ W'.cell? ⟨bx, ox + M, none⟩ = some (.int .i64 y))
                (first | exact ⟨A0, A1, hck⟩ | exact ⟨g1.keep A0, g1.keep A1, g1.keep hck⟩ | exact ⟨g2.keep A0, g2.keep A1, g2.keep hck⟩ | fail)
                (first
                  | (go_at_call 26; (with_reducible refine (EvalAffine_any (.slice (some ⟨bx, ox, none⟩) 4 cu) (.slice (some ⟨gp, 0, none⟩) 4 4) [a, b, c, d] [1, 2, 3, 4] k _ (HX4.out.ext (Ext.refl wr).drew) (HPI.out.ext (Ext.refl wr).drew)).mono ?_); rw [HEV.out]; rintro e x1 ⟨rfl, hx1⟩; have g1 : Ext wr x1 := (Ext.refl wr).drew.trans hx1)
                  | (go_at_call 26; (with_reducible refine (EvalAffine_any (.slice (some ⟨bx, ox, none⟩) 4 cu) (.slice (some ⟨gp + 1, 0, none⟩) 4 4) [a, b, c, d] (qL (M + 1) 4 m) k _ (HX4.out.ext g1) (HQI.out.ext g1)).mono ?_); rw [HDE.out]; rintro e x2 ⟨rfl, hx2⟩; have g2 : Ext wr x2 := g1.trans hx2)
                  | fail)
              have HEF := Lib.hid (HE_4.out.trans g2)
              go_wp2
              go_ret
              exact ⟨rfl, HEF.out⟩
    · have hd0 : decide ((1048576 : Int) < n0) = false := by simp; omega
      have hd1 : decide ((1048576 : Int) < n1) = true := by simp; omega
      go_enter Try.func6, Try.ntmps6
      go_wp2
      go_ret
      exact ⟨rfl, Ext.refl w⟩
  · have hd0 : decide ((1048576 : Int) < n0) = true := by simp; omega
    go_enter Try.func6, Try.ntmps6
    go_wp2
    go_ret
    exact ⟨rfl, Ext.refl w⟩
end Go.Proofs.Ytabkhiakekammaa
