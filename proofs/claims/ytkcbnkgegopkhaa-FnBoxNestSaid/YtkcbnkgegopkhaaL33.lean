/- FnBoxNest: the nest of a box has as many points as the product of its sizes says: the walk. -/
import Derived.Test.YtkcbnkgegopkhaaR14
import Derived.Test.YtkcbnkgegopkhaaR5
import Derived.Test.YtkcbnkgegopkhaaR12
import Derived.Test.YtkcbnkgegopkhaaP1
import Derived.Test.YtkcbnkgegopkhaaP6
import Derived.Test.YtkcbnkgegopkhaaN9
import Derived.Test.YtkcbnkgegopkhaaN8
import Derived.Test.YtkcbnkgegopkhaaOp
namespace Go.Proofs.Ytkcbnkgegopkhaa
open Go.RowKit Go.ChangeShapes Go.WideShapes Go.ChangeAt Go.Joins

theorem prodN_take {ns : List Int} {k : Nat} {x : Int} (h : ns[k]? = some x) : prodN (ns.take (k + 1)) = prodN (ns.take k) * x.toNat := by
  rw [take_next h]
  generalize ns.take k = l
  induction l with
  | nil => simp [prodN]
  | cons a l ih => simp only [List.cons_append, prodN]; rw [ih, Nat.mul_assoc]
theorem prodN_bd : ∀ (ns : List Int), (∀ x ∈ ns, 0 ≤ x ∧ x ≤ 99) → prodN ns ≤ 99 ^ ns.length
  | [], _ => by simp [prodN]
  | a :: l, h => by
    simp only [prodN, List.length_cons, Nat.pow_succ]
    have h1 := prodN_bd l (fun x hx => h x (by simp [hx]))
    have h2 := h a (by simp)
    rw [Nat.mul_comm]
    exact Nat.mul_le_mul h1 (by omega)

theorem box_bound {k d : Int} (h0 : 0 ≤ k) (h1 : k ≤ 99) (hd : 0 ≤ d) : boundB d (constA k) = true := by
  have hv : affValidB [0, 0, 0, 0] k = true := by simp [affValidB, withinB]; omega
  unfold boundB constA
  rw [hv, depR_four hv]
  simpa [dep4] using hd
theorem box_nest {ns : List Int} (h4 : ns.length ≤ 4) (h : ∀ x ∈ ns, 0 ≤ x ∧ x ≤ 99) : nestB (ns.map boxLp) = true := by
  refine nestB_iff.2 ⟨by rw [List.length_map]; exact h4, fun i l hl => ?_⟩
  rw [List.getElem?_map] at hl
  obtain ⟨x, hx, rfl⟩ := Option.map_eq_some_iff.1 hl
  have hb := h x (List.mem_of_getElem? hx)
  have e0 := box_bound (k := 0) (d := (i : Int)) (by omega) (by omega) (by omega)
  have e1 := box_bound (d := (i : Int)) hb.1 hb.2 (by omega)
  simp [loopB, sideB, boxLp, e0, e1]
theorem box_rect {ns : List Int} (h4 : ns.length ≤ 4) (h : ∀ x ∈ ns, 0 ≤ x ∧ x ≤ 99) : rectB (ns.map boxLp) = true := by
  unfold rectB
  rw [box_nest h4 h, Bool.and_true, List.all_eq_true]
  intro l hl
  obtain ⟨x, hx, rfl⟩ := List.mem_map.1 hl
  rfl

set_option maxHeartbeats 4000000 in
set_option maxRecDepth 100000 in
theorem walkFnBoxNest (v0 : Value) (w : World) (h0 : RBytes w v0) :
    Calls Try.prog 6 #[v0] w fun e w' => e = .returned (.bool true) ∧ Below w.heap.size w w' := by
  obtain ⟨p0, n0, c0, rfl, hb0, hl0⟩ := h0
  have hm0 := hb0.2.1
  have HB0 := Lib.hid hb0; have HL0 := Lib.hid hl0; clear hb0 hl0
  by_cases h0 : n0 ≤ 1048576
  · have hd0 : decide ((1048576 : Int) < n0) = false := by simp; omega
    go_enter Try.func6, Try.ntmps6
    go_wp2_with (fail)
    refine (DrawBoxNest_any p0 n0 c0 _ HB0.out HL0.out).mono ?_
    rintro e w1 ⟨⟨v1, ns, rfl, hv, hn5⟩, E1⟩
    have HV := Lib.hid hv; have HE1 := Lib.hid E1
    clear hv E1
    obtain ⟨b, hb⟩ : ∃ b, boxB ns = b := ⟨_, rfl⟩
    obtain ⟨ls, hls⟩ : ∃ ls, boxL ns = ls := ⟨_, rfl⟩
    have HB := Lib.hid hb; have HLS := Lib.hid hls
    clear hb hls
    have hbb : (b != b) = false := by simp
    have hbe : (b == b) = true := by simp
    go_wp2_with (fail)
    refine (BoxNest_any v1 ns w1 HV.out).mono ?_
    rintro e w2 ⟨⟨p2, c2, F2, rfl, hf2, -⟩, hE⟩
    rw [HLS.out] at hf2 ⊢
    rw [HB.out]
    have E2 := Lib.hid hE; have HA2 := Lib.hid hf2.at
    clear hE hf2
    go_wp2_with (fail)
    refine (specBoxNest_any v1 ns w2 (HV.out.ext E2.out)).mono ?_
    rintro e w3 ⟨⟨p3, c3, F3, rfl, hf3, -⟩, hE⟩
    rw [HLS.out] at hf3 ⊢
    rw [HB.out]
    have E3 := Lib.hid (E2.out.trans hE); have HA3 := Lib.hid (HA2.out.ext hE); have HW3 := Lib.hid hf3.at
    clear hE hf3 E2 HA2
    obtain ⟨m, hm⟩ : ∃ m, ls.length = m := ⟨_, rfl⟩
    rw [hm]
    have HM := Lib.hid hm
    replace HA3 := Lib.hid (show LoopsAt w3 (.slice p2 m c2) ls by rw [← hm]; exact HA3.out)
    replace HW3 := Lib.hid (show LoopsAt w3 (.slice p3 m c3) ls by rw [← hm]; exact HW3.out)
    clear hm
    go_wp2_with (fail)
    refine (NestSame_any p2 m c2 p3 m c3 ls ls w3 HM.out HM.out HA3.out HW3.out).mono ?_
    rw [lEqB_self]
    rintro e w4 ⟨rfl, hE⟩
    have E4 := Lib.hid (E3.out.trans hE); have HA4 := Lib.hid (HA3.out.ext hE); have HW4 := Lib.hid (HW3.out.ext hE)
    clear hE E3 HA3 HW3
    cases b with
    | false =>
      go_wp2_with (fail)
      refine (NestSame_any p2 m c2 p3 m c3 ls ls w4 HM.out HM.out HA4.out HW4.out).mono ?_
      rw [lEqB_self]
      rintro e w5 ⟨rfl, hE⟩
      have E5 := Lib.hid (HE1.out.trans (E4.out.trans hE))
      clear hE
      go_wp2
      go_ret
      exact ⟨rfl, E5.out⟩
    | true =>
      have hbox : ns.length ≤ 4 ∧ ∀ x ∈ ns, 0 ≤ x ∧ x ≤ 99 := by
        have h := HB.out
        simp only [boxB, Bool.and_eq_true, decide_eq_true_eq, List.all_eq_true] at h
        refine ⟨h.1, fun x hx => ?_⟩
        have := h.2 x hx
        simp only [okS, decide_eq_true_eq] at this
        omega
      have hlsm : ls = ns.map boxLp := by rw [← HLS.out]; exact boxL_yes HB.out
      have HNB : Hid (nestB ls = true) := Lib.hid (by rw [hlsm]; exact box_nest hbox.1 hbox.2)
      have HRB : Hid (rectB ls = true) := Lib.hid (by rw [hlsm]; exact box_rect hbox.1 hbox.2)
      have HPT : Hid (nptsB ls = true → (nptsL ls).length = prodN ns) := Lib.hid (fun h => by
        rw [nptsL_leaves h, hlsm, List.length_map, leaves_box ns ns.length [] (by simp)]; simp)
      have HX := Lib.hid hbox
      have hn4 := hbox.1
      clear hbox hlsm
      obtain ⟨p1, c1, rfl, hnm, -⟩ := HV.out
      obtain ⟨nn, hnn⟩ : ∃ nn, ns.length = nn := ⟨_, rfl⟩
      replace HV := Lib.hid (show IntsAt w1 (.slice p1 nn c1) ns by rw [← hnn]; exact HV.out)
      rw [hnn] at hn4 hnm hn5 ⊢
      have HN := Lib.hid hnn
      clear hnn
      go_wp2
      go_loopw [8, 9] (fun a i wr => ∃ k : Nat, k ≤ nn ∧ i = .int .i64 k ∧ a = .int .i64 (prodN (ns.take k) : Nat) ∧ Ext w4 wr) (fun _ i _ => nn - (intOf i).toNat)
      case atStart => exact ⟨0, by omega, rfl, rfl, Ext.refl _⟩
      case round =>
        obtain ⟨k, hk, rfl, rfl, hE4⟩ := hrel
        have E4' := Lib.hid (E4.out.trans hE4); have HA4' := Lib.hid (HA4.out.ext hE4); have HE4 := Lib.hid hE4
        clear hE4
        have hbd : prodN (ns.take k) ≤ 99 ^ 4 := Nat.le_trans (prodN_bd _ (fun x hx => HX.out.2 x (List.mem_of_mem_take hx))) (Nat.pow_le_pow_right (by omega) (by rw [List.length_take]; omega))
        obtain ⟨A, hA⟩ : ∃ A, prodN (ns.take k) = A := ⟨_, rfl⟩
        rw [hA] at hbd ⊢
        have HA := Lib.hid hA; clear hA
        by_cases hlt : k < nn
        · obtain ⟨x, hx⟩ := get_some (xs := ns) (k := k) (by rw [HN.out]; exact hlt)
          obtain ⟨hx0, hx1⟩ := HX.out.2 x (List.mem_of_getElem? hx)
          obtain ⟨y, rfl⟩ : ∃ y : Nat, x = (y : Int) := ⟨x.toNat, by omega⟩
          obtain ⟨p3', d3, ev, _, hcc⟩ := (HV.out.ext E4'.out).get
          simp only [Value.slice.injEq] at ev
          obtain ⟨rfl, -, rfl⟩ := ev
          obtain ⟨b2, off2, rfl, cv, hb2⟩ := hcc k _ hx
          have HP := Lib.hid (prodN_take hx)
          have hw : IntKind.i64.wrap ((A : Int) * (y : Int)) = ((A * y : Nat) : Int) := by
            have h1 : A * y ≤ 99 ^ 4 * 99 := Nat.mul_le_mul hbd (by omega)
            have h2 : (A : Int) * (y : Int) = ((A * y : Nat) : Int) := by simp
            rw [h2, IntKind.wrap_i64]; omega
          clear hcc hx
          go_wp2
          go_roundw
          case rel => exact ⟨k + 1, by omega, by go_num, by rw [HP.out, HA.out]; simp, HE4.out⟩
          case measure => simp [intOf]; omega
        · obtain rfl : k = nn := by omega
          have HAN : Hid (prodN ns = A) := Lib.hid (by rw [← HA.out, List.take_of_length_le (by rw [HN.out]; omega)])
          clear HA
          obtain ⟨r, hr⟩ : ∃ r, nptsB ls = r := ⟨_, rfl⟩
          have HR := Lib.hid hr; clear hr
          have HPL : Hid ((nptsL ls).length ≤ 120) := Lib.hid nptsL_len
          go_wp2_with (fail)
          refine (NestPoints_any p2 m c2 ls wr HM.out HA4'.out).mono ?_
          rintro e w5 ⟨⟨v5, own5, rfl, hp5, -⟩, hE⟩
          rw [HR.out]
          obtain ⟨q5, d5, rfl⟩ := hp5.form
          have E5 := Lib.hid (E4'.out.trans hE); have HA5 := Lib.hid (HA4'.out.ext hE)
          clear hE hp5
          have hpl := HPL.out
          have HPQ := Lib.hid (fun h => HPT.out (HR.out.trans h))
          generalize (nptsL ls).length = np at *
          go_wp2_with (fail)
          refine (NestValid_any p2 m c2 ls w5 HM.out HA5.out).mono ?_
          rw [HNB.out]
          rintro e w6 ⟨rfl, hE⟩
          have E6 := Lib.hid (E5.out.trans hE); have HA6 := Lib.hid (HA5.out.ext hE)
          clear hE
          go_wp2_with (fail)
          refine (RectNest_any p2 m c2 ls w6 HM.out HA6.out).mono ?_
          rw [HRB.out]
          rintro e w7 ⟨rfl, hE⟩
          have E7 := Lib.hid (HE1.out.trans (E6.out.trans hE))
          clear hE
          cases r with
          | false =>
            go_wp2
            go_ret
            exact ⟨rfl, E7.out⟩
          | true =>
            have hpe : np = A := (HPQ.out rfl).trans HAN.out
            subst hpe
            have hee : ((np : Int) == (np : Int)) = true := by simp
            go_wp2
            go_ret
            exact ⟨rfl, E7.out⟩
  · have hd0 : decide ((1048576 : Int) < n0) = true := by simp; omega
    go_enter Try.func6, Try.ntmps6
    go_wp2
    go_ret
    exact ⟨rfl, Ext.refl w⟩
end Go.Proofs.Ytkcbnkgegopkhaa
