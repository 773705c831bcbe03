/- The texts As, joined. No statement is proved here. -/
import Derived.Test.YtggpjapmhakklaaK41
import Derived.Test.YtggpjapmhakklaaK13
import Derived.Sort.OwnSortedInts
import Derived.Lib.SlicesCompact
import Derived.Lib.RowBridge
/- The program's ascending: slices.Sort and slices.Compact of a row of the call's own (was G35). No statement is proved here. -/
namespace Go.Proofs.Ytggpjapmhakklaa
open Go.RowKit Go.Maps Go.Sort

/-- What slices.Compact leaves of a sorted list. -/
theorem compact_asc (zs : List Int) (hs : zs.Pairwise (· ≤ ·)) : ∀ m, m ≤ zs.length → (Lib.compactUpTo zs.toArray m).Pairwise (· < ·) ∧ (∀ x, x ∈ Lib.compactUpTo zs.toArray m ↔ x ∈ zs.take m) := by
  intro m
  induction m with
  | zero => intro _; simp [Lib.compactUpTo]
  | succ m ih =>
    intro hm
    obtain ⟨h1, h2⟩ := ih (by omega)
    obtain ⟨z, hz⟩ := get_some (xs := zs) (k := m) (by omega)
    have hzz : zs.toArray[m]! = z := by simp [hz]
    rw [Lib.compactUpTo_succ, take_next hz, hzz]
    by_cases hk : Lib.keeps zs.toArray m = true
    · rw [if_pos hk]
      refine ⟨List.pairwise_append.2 ⟨h1, by simp, fun a ha b hb => ?_⟩, fun x => by rw [List.mem_append, List.mem_append, h2]⟩
      simp only [List.mem_singleton] at hb
      subst hb
      have ha' := (h2 a).1 ha
      obtain ⟨i, hi⟩ := List.mem_iff_getElem?.1 ha'
      have him : i < m := by have := (List.getElem?_eq_some_iff.1 hi).1; simp at this; omega
      rw [List.getElem?_take_of_lt him] at hi
      obtain ⟨y, hy⟩ := get_some (xs := zs) (k := m - 1) (by omega)
      have hyb : y ≤ b := by
        have := List.pairwise_iff_getElem.1 hs (m - 1) m (by omega) (by omega) (by omega)
        rw [(List.getElem?_eq_some_iff.1 hy).2, (List.getElem?_eq_some_iff.1 hz).2] at this
        exact this
      have hne : b ≠ y := by
        have h := hk
        simp only [Lib.keeps, decide_eq_true_eq] at h
        rcases h with h | h
        · omega
        · rw [hzz] at h
          have : zs.toArray[m - 1]! = y := by simp [hy]
          rwa [this] at h
      have hay : a ≤ y := by
        by_cases e : i = m - 1
        · subst e; rw [hi] at hy; cases hy; exact Int.le_refl _
        · have := List.pairwise_iff_getElem.1 hs i (m - 1) (by omega) (by omega) (by omega)
          rw [(List.getElem?_eq_some_iff.1 hy).2, (List.getElem?_eq_some_iff.1 hi).2] at this
          exact this
      omega
    · rw [if_neg hk, List.append_nil]
      refine ⟨h1, fun x => ?_⟩
      rw [List.mem_append, h2]
      refine ⟨.inl, fun h => ?_⟩
      rcases h with h | h
      · exact h
      · simp only [List.mem_singleton] at h
        subst h
        have h := hk
        simp only [Lib.keeps, decide_eq_true_eq, not_or, Decidable.not_not] at h
        obtain ⟨y, hy⟩ := get_some (xs := zs) (k := m - 1) (by omega)
        have e : zs.toArray[m - 1]! = y := by simp [hy]
        rw [hzz, e] at h
        rw [h.2]
        exact List.mem_iff_getElem?.2 ⟨m - 1, by rw [List.getElem?_take_of_lt (by omega)]; exact hy⟩
def ascL (xs : List Int) : List Int := Lib.compact (xs.mergeSort fun x y => decide (x ≤ y))
theorem ascL_is (xs : List Int) : (ascL xs).Pairwise (· < ·) ∧ ∀ x, x ∈ ascL xs ↔ x ∈ xs := by
  have hs : (xs.mergeSort fun x y => decide (x ≤ y)).Pairwise (· ≤ ·) := by
    have h := List.pairwise_mergeSort (le := fun (x y : Int) => decide (x ≤ y)) (by intro a b c; simp; omega) (by intro a b; simp; omega) xs
    exact h.imp (fun h => by simpa using h)
  obtain ⟨h1, h2⟩ := compact_asc _ hs _ (Nat.le_refl _)
  refine ⟨h1, fun x => ?_⟩
  show x ∈ Lib.compactUpTo _ _ ↔ _
  rw [h2, List.take_length, List.mem_mergeSort]
theorem ascL_len (xs : List Int) : (ascL xs).length ≤ xs.length := by
  have h := Lib.compact_length_le (xs.mergeSort fun x y => decide (x ≤ y))
  rwa [List.length_mergeSort] at h
theorem grow_nil (W : World) : grow W #[] = W := by
  obtain ⟨_, _, _, _, _⟩ := W
  simp [grow]
set_option maxRecDepth 100000 in
set_option maxHeartbeats 1000000 in
theorem ascending_any (B : Nat) (p : Option Addr) (n c : Nat) (xs : List Int) (w : World) (hn : xs.length = n) (ho : IntsOwn B w (.slice p n c) xs) (hm : n ≤ 1048576) :
    Calls Try.prog 41 #[.slice p n c] w fun e w' => (∃ v', e = .returned v' ∧ IntsOwn B w' v' (ascL xs)) ∧ Lv (fun b => B ≤ b) w w' := by
  by_cases h0 : n = 0
  · subst h0
    obtain rfl : xs = [] := List.eq_nil_of_length_eq_zero hn
    go_enter Try.func41, Try.ntmps41
    go_wp2_with (fail)
    refine (Try.slices_Sort_int_none p c w).mono ?_
    rintro e w1 ⟨rfl, rfl⟩
    go_wp2_with (fail)
    refine (Try.slices_Compact_int_empty p c w1).mono ?_
    rintro e w2 ⟨rfl, rfl⟩
    go_wp2
    go_ret
    have e0 : ascL [] = [] := by simp [ascL, Lib.compact, Lib.compactUpTo]
    exact ⟨⟨_, rfl, by rw [e0]; exact ho⟩, Lv.refl _ _⟩
  · rcases ho.2 with ⟨_, h⟩ | ⟨g, cap, cur, hv, hB, hg, h1, h2, h3, h4⟩
    · omega
    · cases hv
      rw [Nat.mul_one] at h4
      have hgl := lt_of_block hg
      obtain ⟨ts, hts⟩ : ∃ ts, (xs.mergeSort fun x y => decide (x ≤ y)) = ts := ⟨_, rfl⟩
      have htl : ts.length = xs.length := by rw [← hts, List.length_mergeSort]
      have HA : Hid (ascL xs = Lib.compact ts) := Lib.hid (by rw [← hts]; rfl)
      have hal := ascL_len xs
      rw [HA.out] at hal
      rw [HA.out]
      clear hn
      have HG := Lib.hid hg; have HTS := Lib.hid hts; have HTL := Lib.hid htl; have H4 := Lib.hid h4; have H3 := Lib.hid h3
      clear hg hts htl h4 ho h3
      go_enter Try.func41, Try.ntmps41
      go_wp2_with (fail)
      refine (Try.slices_Sort_int g 0 c xs w (holds_of_blockI HG.out H4.out) hgl (by omega)).mono ?_
      rw [HTS.out]
      rintro e w1 ⟨rfl, n1, os1, hw1⟩
      have HO1 : Hid (w1.ownsRow B 3 1 (.slice (some ⟨g, 0, none⟩) xs.length c) xs.length (ts.map (Value.int .i64))) := Lib.hid (by rw [hw1]; exact ownsRow_sortedI HTL.out hB HG.out h1 h2 H3.out)
      have HL1 : Hid (Lv (fun b => B ≤ b) w w1) := Lib.hid (by rw [hw1]; exact Lv.grown (grownBy_sortedI _) (fun r hr _ => by cases hr; exact hB))
      clear hw1
      rcases HO1.out.2 with ⟨_, h⟩ | ⟨g', cap', cur1, hv', hB', hg', h1', h2', h3', h4'⟩
      · omega
      · cases hv'
        rw [Nat.mul_one] at h4'
        have hcomp := Try.slices_Compact_int g 0 c ts w1 (holds_of_blockI hg' (by rw [HTL.out]; exact h4')) (by rw [HTL.out]; omega) (by rw [HTL.out]; exact h1')
        rw [HTL.out] at hcomp
        have HC := Lib.hid hcomp; have HG1 := Lib.hid hg'; have H31 := Lib.hid h3'
        clear hcomp hg' h4' h3'
        go_wp2_with (fail)
        refine HC.out.mono ?_
        rintro e w2 ⟨rfl, q2, hw2⟩
        have hll : (Lib.compact ts ++ List.replicate (xs.length - (Lib.compact ts).length) 0).length = xs.length := by
          rw [List.length_append, List.length_replicate]; omega
        have HO2 : Hid (w2.ownsRow B 3 1 (.slice (some ⟨g, 0, none⟩) xs.length c) xs.length ((Lib.compact ts ++ List.replicate (xs.length - (Lib.compact ts).length) 0).map (Value.int .i64))) := Lib.hid (by
          have h := ownsRow_sortedI (n := q2) (os := #[]) hll hB HG1.out h1 h2 H31.out
          rw [grow_nil] at h
          rw [hw2]
          exact h)
        have HL2 : Hid (Lv (fun b => B ≤ b) w1 w2) := Lib.hid (by
          have h := grownBy_sortedI (w := w1) (g := g) (n := q2) (os := #[]) (Lib.compact ts ++ List.replicate (xs.length - (Lib.compact ts).length) 0).toArray
          rw [grow_nil] at h
          rw [hw2]
          exact Lv.grown h (fun r hr _ => by cases hr; exact hB))
        clear hw2
        go_wp2
        go_ret
        refine ⟨⟨_, rfl, ?_⟩, HL1.out.trans HL2.out (fun _ _ h => h) (fun _ _ h => h)⟩
        rcases HO2.out.2 with ⟨_, h⟩ | ⟨g', cap', cur2, hv', hB', hg', h1', h2', h3', h4'⟩
        · omega
        · cases hv'
          refine ⟨by simp, .inr ⟨g, c, cur2, rfl, hB, hg', by omega, h2', h3', ?_⟩⟩
          rw [Nat.mul_one]
          calc cur2.toList.take (Lib.compact ts).length = (cur2.toList.take (xs.length * 1)).take (Lib.compact ts).length := by rw [List.take_take, Nat.min_eq_left (by omega)]
            _ = ((Lib.compact ts ++ List.replicate (xs.length - (Lib.compact ts).length) 0).map (Value.int .i64)).take (Lib.compact ts).length := by rw [h4']
            _ = (Lib.compact ts).map (Value.int .i64) := by rw [List.map_append, List.take_append_of_le_length (Nat.le_of_eq (List.length_map _).symm), List.take_of_length_le (Nat.le_of_eq (List.length_map _))]
end Go.Proofs.Ytggpjapmhakklaa
