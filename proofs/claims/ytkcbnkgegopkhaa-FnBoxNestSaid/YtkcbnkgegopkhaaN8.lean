/- Contracts: nests with constant bounds. -/
import Derived.Test.YtkcbnkgegopkhaaN7
namespace Go.Proofs.Ytkcbnkgegopkhaa
open Go.RowKit

/-- The number of coefficients up to the last one, of the first n, that isn't 0. -/
def depK (xs : List Int) : Nat → Int
  | 0 => 0
  | k + 1 => if xs.getD k 0 ≠ 0 then ((k + 1 : Nat) : Int) else depK xs k
theorem depK_nn (xs : List Int) (k : Nat) : 0 ≤ depK xs k ∧ depK xs k ≤ k := by
  induction k with
  | zero => simp [depK]
  | succ k ih => unfold depK; split <;> omega
theorem depK_yes {xs : List Int} {k : Nat} {x : Int} (hx : xs[k]? = some x) (h : x ≠ 0) : depK xs (k + 1) = ((k + 1 : Nat) : Int) := by
  unfold depK; rw [List.getD_eq_getElem?_getD, hx]; simp [h]
theorem depK_no {xs : List Int} {k : Nat} (hx : xs[k]? = some 0) : depK xs (k + 1) = depK xs k := by
  conv => lhs; unfold depK
  rw [List.getD_eq_getElem?_getD, hx]; simp
theorem depK_four (a b c d : Int) : depK [a, b, c, d] 4 = dep4 a b c d := by
  simp only [depK, dep4, List.getD_cons_zero, List.getD_cons_succ]; rfl

set_option maxHeartbeats 1000000 in
theorem l1Depth_any (p : Option Addr) (n c : Nat) (xs : List Int) (k : Int) (w : World) (hn : xs.length = n) (hs : IntsAt w (.slice p n c) xs) :
    Calls Try.prog 110 #[.agg #[.slice p n c, .int .i64 k]] w fun e w' => e = .returned (.int .i64 (depK xs n)) ∧ Ext w w' := by
  have hm : n ≤ 9223372036854775807 := by obtain ⟨_, _, hv, hm, _⟩ := hs; rw [← hn]; exact hm
  have HS := Lib.hid hs; have HN := Lib.hid hn; clear hs hn
  go_enter Try.func110, Try.ntmps110
  go_wp2
  go_loopw [3, 4] (fun d i wr => ∃ k' : Nat, k' ≤ n ∧ i = .int .i64 k' ∧ d = .int .i64 (depK xs k') ∧ wr.heap[w.heap.size]? = some (.cells #[.slice p n c, .int .i64 k] 64 (0, 0)) ∧ Ext w wr) (fun _ i _ => n - (intOf i).toNat)
  case atStart => exact ⟨0, by omega, rfl, rfl, blk_at rfl, (Ext.refl w).alloc _⟩
  case round =>
    obtain ⟨j, hj, rfl, rfl, hB, hE⟩ := hrel
    obtain ⟨d0, d1, -, -⟩ := blk2 hB
    have HB := Lib.hid hB; clear hB
    by_cases hlt : j < n
    · obtain ⟨x, hx⟩ := get_some (xs := xs) (k := j) (by rw [HN.out]; exact hlt)
      obtain ⟨p', cc, hv, _, hc⟩ := (HS.out.ext hE).get
      cases hv
      obtain ⟨b, off, rfl, c0, hb⟩ := hc j x hx
      have HX := Lib.hid hx; clear hx hc
      by_cases h0 : x = 0
      · subst h0
        go_wp2
        go_roundw
        case rel => exact ⟨j + 1, by omega, by go_num, by rw [depK_no HX.out], HB.out, hE⟩
        case measure => simp [intOf]; omega
      · have hne : (x != 0) = true := by simp [h0]
        have H0 := Lib.hid h0; clear h0
        go_wp2
        go_roundw
        case rel => exact ⟨j + 1, by omega, by go_num, by rw [depK_yes HX.out H0.out]; go_num, HB.out, hE⟩
        case measure => simp [intOf]; omega
    · have e : j = n := by omega
      subst e
      go_wp2
      go_ret
      exact ⟨rfl, hE⟩

def flatA (a : Aff) : Bool := decide (depK a.1 a.1.length ≤ 0)
def flatB (x : Lp) : Bool := x.1.all flatA && x.2.all flatA

def rectB (ls : List Lp) : Bool := ls.all flatB && nestB ls

/-- A loop of a valid nest is flat if it is valid without outer loops. -/
theorem all_side {zs : List Aff} {i : Int} (h : sideB zs i = true) : sideB zs 0 = zs.all flatA := by
  simp only [sideB, Bool.and_eq_true] at h
  unfold sideB
  rw [h.1, Bool.true_and]
  rw [Bool.eq_iff_iff, List.all_eq_true, List.all_eq_true]
  refine forall_congr' fun a => imp_congr_right fun ha => ?_
  have hv := List.all_eq_true.1 h.2 a ha
  simp only [boundB, Bool.and_eq_true] at hv
  obtain ⟨a1, a2⟩ := a
  obtain ⟨x0, x1, x2, x3, e, -⟩ := valid_four hv.1
  dsimp only at e
  subst e
  have e2 : depK [x0, x1, x2, x3] [x0, x1, x2, x3].length = dep4 x0 x1 x2 x3 := depK_four x0 x1 x2 x3
  simp only [boundB, flatA, hv.1, depR_four hv.1, e2, Bool.true_and]
theorem loop_flat {l : Lp} {i : Int} (h : loopB l i = true) : loopB l 0 = flatB l := by
  simp only [loopB, Bool.and_eq_true] at h
  unfold loopB flatB
  rw [all_side h.1, all_side h.2]

set_option maxHeartbeats 2000000 in
theorem RectNest_any (p : Option Addr) (n c : Nat) (ls : List Lp) (w : World) (hn : ls.length = n) (hs : LoopsAt w (.slice p n c) ls) :
    Calls Try.prog 33 #[.slice p n c] w fun e w' => e = .returned (.bool (rectB ls)) ∧ Ext w w' := by
  have hm : n ≤ 9223372036854775807 := by obtain ⟨_, _, hv, hm, _⟩ := hs; rw [← hn]; exact hm
  have HS := Lib.hid hs; have HN := Lib.hid hn; clear hs hn
  cases hv : nestB ls with
  | false =>
    have HV := Lib.hid hv; clear hv
    go_enter Try.func33, Try.ntmps33
    go_wp2_with (fail)
    refine (NestValid_any _ _ _ ls _ HN.out HS.out).mono ?_
    rw [HV.out]
    rintro e w1 ⟨rfl, hE1⟩
    go_wp2
    go_ret
    exact ⟨ret_bool (by simp [rectB, HV.out]), hE1⟩
  | true =>
    have HV := Lib.hid hv; clear hv
    go_enter Try.func33, Try.ntmps33
    go_wp2_with (fail)
    refine (NestValid_any _ _ _ ls _ HN.out HS.out).mono ?_
    rw [HV.out]
    rintro e w1 ⟨rfl, hE1⟩
    go_wp2
    go_loopw [10] (fun i wr => ∃ k : Nat, k ≤ n ∧ i = .int .i64 k ∧ (ls.take k).all flatB = true ∧ Ext w wr) (fun i _ => n - (intOf i).toNat)
    case atStart => exact ⟨0, by omega, rfl, by simp, hE1⟩
    case round =>
      clear hE1
      obtain ⟨k, hk, rfl, hall, hE⟩ := hrel
      have HA := Lib.hid hall; clear hall
      by_cases hlt : k < n
      · obtain ⟨x, hx⟩ := get_some (xs := ls) (k := k) (by rw [HN.out]; exact hlt)
        obtain ⟨b, off, q, m, q', m', rfl, c0, c1, hb, hr, hr'⟩ := (HS.out.ext hE).elem hx
        have HL : Hid (loopB x 0 = flatB x) := loop_flat ((nestB_iff.1 HV.out).2 k x hx)
        have HX := Lib.hid hx; have HR := Lib.hid hr; have HR' := Lib.hid hr'; clear hx hr hr'
        go_wp2_with (fail)
        refine (loopValid_any _ _ x 0 _ (HR.out.ext ((Ext.refl wr).alloc _)) (HR'.out.ext ((Ext.refl wr).alloc _))).mono ?_
        rw [HL.out]
        rintro e w1 ⟨rfl, hE1⟩
        have g1 := ((Ext.refl wr).alloc _).trans hE1
        clear c0 c1
        cases h1 : flatB x with
        | false =>
          have H1 := Lib.hid h1; clear h1
          go_wp2
          go_ret
          exact ⟨ret_bool (by simp [rectB, all_false_of (p := flatB) HX.out H1.out]), hE.trans g1⟩
        | true =>
          have H1 := Lib.hid h1; clear h1
          go_wp2
          go_roundw
          case rel => exact ⟨k + 1, by omega, by go_num, all_take_next HX.out HA.out H1.out, hE.trans g1⟩
          case measure => simp [intOf]; omega
      · have hal : ls.all flatB = true := all_take_end (by rw [HN.out]; omega) HA.out
        have HAl := Lib.hid hal; clear hal
        go_wp2
        go_ret
        exact ⟨ret_bool (by simp [rectB, HAl.out, HV.out]), hE⟩
end Go.Proofs.Ytkcbnkgegopkhaa
