/- The texts U7, joined. No statement is proved here. -/
import Derived.Test.YtggpjapmhakklaaK08
import Derived.Test.YtggpjapmhakklaaK11
import Derived.Test.YtggpjapmhakklaaK22
import Derived.Test.YtggpjapmhakklaaK43
/- DistinctCells of model and program. No statement is proved here. -/
namespace Go.Proofs.Ytggpjapmhakklaa
open Go.RowKit Go.Maps

/-- How many of the first k numbers are new where they stand. -/
def dcN (xs : List Int) : Nat → Nat
  | 0 => 0
  | k + 1 => match xs[k]? with
    | none => dcN xs k
    | some x => if x ∈ xs.take k then dcN xs k else dcN xs k + 1
def dcB (xs : List Int) : Int := if xs.length ≤ 600 then (dcN xs xs.length : Int) else 0
theorem dcN_le (xs : List Int) : ∀ k, dcN xs k ≤ k
  | 0 => by simp [dcN]
  | k + 1 => by
    have := dcN_le xs k
    unfold dcN
    split
    · omega
    · split <;> omega
theorem dcN_yes {xs : List Int} {k : Nat} {x : Int} (h : xs[k]? = some x) (hm : x ∈ xs.take k) : dcN xs (k + 1) = dcN xs k := by
  rw [dcN, h]
  simp only [if_pos hm]
theorem dcN_no {xs : List Int} {k : Nat} {x : Int} (h : xs[k]? = some x) (hm : x ∉ xs.take k) : dcN xs (k + 1) = dcN xs k + 1 := by
  rw [dcN, h]
  simp only [if_neg hm]
/-- The numbers that are new where they stand. -/
def newL (xs : List Int) : Nat → List Int
  | 0 => []
  | k + 1 => match xs[k]? with
    | none => newL xs k
    | some x => if x ∈ xs.take k then newL xs k else newL xs k ++ [x]
theorem newL_is (xs : List Int) : ∀ k, k ≤ xs.length → (newL xs k).Nodup ∧ (∀ x, x ∈ newL xs k ↔ x ∈ xs.take k) ∧ (newL xs k).length = dcN xs k
  | 0, _ => by simp [newL, dcN]
  | k + 1, h => by
    obtain ⟨h1, h2, h3⟩ := newL_is xs k (by omega)
    obtain ⟨x, hx⟩ := get_some (xs := xs) (k := k) (by omega)
    rw [take_next hx]
    by_cases hm : x ∈ xs.take k
    · have e : newL xs (k + 1) = newL xs k := by rw [newL, hx]; simp only [if_pos hm]
      rw [e, dcN_yes hx hm]
      refine ⟨h1, fun y => ?_, h3⟩
      rw [h2, List.mem_append]
      exact ⟨.inl, fun hy => by rcases hy with hy | hy; exact hy; simp at hy; subst hy; exact hm⟩
    · have e : newL xs (k + 1) = newL xs k ++ [x] := by rw [newL, hx]; simp only [if_neg hm]
      rw [e, dcN_no hx hm]
      refine ⟨?_, fun y => by rw [List.mem_append, List.mem_append, h2], by rw [List.length_append, h3]; rfl⟩
      rw [List.nodup_append]
      exact ⟨h1, by simp, fun a ha b hb => by simp at hb; subst hb; exact fun e => hm ((h2 a).1 ha |> fun t => e ▸ t)⟩
theorem sub_len : ∀ {l m : List Int}, l.Nodup → (∀ x ∈ l, x ∈ m) → l.length ≤ m.length
  | [], m, _, _ => by simp
  | a :: l, m, hn, h => by
    obtain ⟨h1, h2⟩ := List.nodup_cons.1 hn
    have ha := h a (by simp)
    have := sub_len (l := l) (m := m.erase a) h2 (fun x hx => by
      rw [List.mem_erase_of_ne (fun e => h1 (by rw [← e]; exact hx))]
      exact h x (List.mem_cons_of_mem _ hx))
    rw [List.length_erase_of_mem ha] at this
    have hl := List.length_pos_of_mem ha
    simp only [List.length_cons]
    omega
theorem asc_nodup {l : List Int} (h : l.Pairwise (· < ·)) : l.Nodup := h.imp (fun hab e => by omega)
theorem dcN_asc (xs : List Int) : ((ascL xs).length : Int) = dcN xs xs.length := by
  obtain ⟨h1, h2, h3⟩ := newL_is xs xs.length (Nat.le_refl _)
  obtain ⟨a1, a2⟩ := ascL_is xs
  rw [List.take_length] at h2
  have e1 := sub_len h1 (fun x hx => (a2 x).2 ((h2 x).1 hx))
  have e2 := sub_len (asc_nodup a1) (fun x hx => (h2 x).2 ((a2 x).1 hx))
  omega
theorem all_take_has {x : Int} {s : List Int} {k : Nat} {y : Int} (h : s[k]? = some y) (hk : x ∉ s.take k) (hne : y ≠ x) : x ∉ s.take (k + 1) := by
  rw [take_next h, List.mem_append]
  rintro (h1 | h1)
  · exact hk h1
  · simp at h1; exact hne h1.symm

set_option linter.unusedVariables false in
set_option maxHeartbeats 1000000 in
theorem l6Has_ints (p : Option Addr) (n c : Nat) (x : Int) (xs : List Int) (w : World) (hn : xs.length = n) (hs : IntsAt w (.slice p n c) xs) :
    Calls Try.prog 38 #[.slice p n c, .int .i64 x] w fun e w' => e = .returned (.bool (decide (x ∈ xs))) ∧ Ext w w' := by
  obtain ⟨hm, -⟩ := hs.cl
  have HN := Lib.hid hn; have HS := Lib.hid hs
  clear hn hs
  obtain ⟨z, hz⟩ : ∃ z, decide (x ∈ xs) = z := ⟨_, rfl⟩
  rw [hz]
  have HZ := Lib.hid hz; clear hz
  go_enter Try.func38, Try.ntmps38
  go_wp2
  go_loopw [5] (fun iv wr => ∃ k : Nat, k ≤ n ∧ iv = .int .i64 k ∧ x ∉ xs.take k ∧ Ext w wr) (fun iv _ => n - (intOf iv).toNat)
  case atStart => exact ⟨0, by omega, rfl, by simp, Ext.refl w⟩
  case round =>
    obtain ⟨k, hk, rfl, hno, hE⟩ := hrel
    have HNO := Lib.hid hno; have HE := Lib.hid hE
    clear hno hE
    by_cases hlt : k < n
    · obtain ⟨y, hy⟩ := get_some (xs := xs) (k := k) (by rw [HN.out]; exact hlt)
      obtain ⟨-, hc⟩ := (HS.out.ext HE.out).cl
      obtain ⟨b, off, rfl, hcell⟩ := hc k y hy
      have hkI : (k : Int) < (n : Int) := by omega
      by_cases e : y = x
      · have hb : (y == x) = true := by simpa using e
        have HR : Hid (true = z) := Lib.hid (by rw [← HZ.out]; subst e; exact (decide_eq_true (List.mem_of_getElem? hy)).symm)
        clear hc hy e
        go_wp2
        go_ret
        exact ⟨by rw [← HR.out]; rfl, HE.out⟩
      · have hb : (y == x) = false := by simpa using e
        have HN1 := Lib.hid (all_take_has hy HNO.out e)
        clear hc hy
        go_wp2
        go_roundw
        case rel => exact ⟨k + 1, by omega, by go_num, HN1.out, HE.out⟩
        case measure => simp [intOf]; omega
    · obtain rfl : k = n := by omega
      have HR : Hid (false = z) := Lib.hid (by rw [← HZ.out]; have h := HNO.out; rw [List.take_of_length_le (by rw [HN.out]; exact Nat.le_refl _)] at h; exact (decide_eq_false h).symm)
      go_wp2
      go_ret
      exact ⟨by rw [← HR.out]; rfl, HE.out⟩

set_option linter.unusedVariables false in
set_option maxRecDepth 100000 in
set_option maxHeartbeats 1000000 in
theorem specDistinctCells_any (B : Nat) (p : Option Addr) (n c : Nat) (xs : List Int) (w : World) (hn : xs.length = n) (ho : IntsOwn B w (.slice p n c) xs) :
    Calls Try.prog 19 #[.slice p n c] w fun e w' => e = .returned (.int .i64 (dcB xs)) ∧ Ext w w' := by
  have hcap := ho.cap
  have hs := ho.at
  obtain ⟨hm, -⟩ := hs.cl
  have HN := Lib.hid hn; have HS := Lib.hid hs
  clear hn hs
  by_cases hbig : n ≤ 600
  · have HR : Hid ((dcN xs n : Int) = dcB xs) := Lib.hid (by unfold dcB; rw [HN.out, if_pos hbig])
    go_enter Try.func19, Try.ntmps19
    go_wp2
    go_loopw [3, 4] (fun cv iv wr => ∃ k : Nat, k ≤ n ∧ iv = .int .i64 k ∧ cv = .int .i64 (dcN xs k : Int) ∧ Ext w wr) (fun _ iv _ => n - (intOf iv).toNat)
    case atStart => exact ⟨0, by omega, rfl, rfl, Ext.refl w⟩
    case round =>
      obtain ⟨k, hk, rfl, rfl, hE⟩ := hrel
      have HE := Lib.hid hE
      clear hE
      have hn6 : (n : Int) ≤ 600 := by omega
      by_cases hlt : k < n
      · obtain ⟨x, hx⟩ := get_some (xs := xs) (k := k) (by rw [HN.out]; exact hlt)
        obtain ⟨-, hc⟩ := (HS.out.ext HE.out).cl
        obtain ⟨b, off, rfl, hcell⟩ := hc k x hx
        have hkI : (k : Int) < (n : Int) := by omega
        have hkc : (k : Int) ≤ (c : Int) := by omega
        have hk0 : (0 : Int) ≤ (k : Int) := by omega
        have hkc2 : k ≤ c := by omega
        have hdb := dcN_le xs k
        have HF : Hid (IntsAt wr (.slice (some ⟨b, off, none⟩) k c) (xs.take k)) := Lib.hid ((HS.out.ext HE.out).front (Nat.le_of_lt hlt))
        obtain ⟨hb, hhb⟩ : ∃ hb, decide (x ∈ xs.take k) = hb := ⟨_, rfl⟩
        have HHB := Lib.hid hhb; have HX := Lib.hid hx
        have hkl : (xs.take k).length = k := by rw [List.length_take, HN.out]; omega
        clear hc hx hhb
        go_wp2_with (fail)
        go_region_held3 (fun W => W.cell? ⟨b, off + k, none⟩ = some (.int .i64 x)) (first | exact hcell | exact g3.keep hcell | fail) (first | (go_at_call 38; (with_reducible refine (l6Has_ints _ k c x (xs.take k) _ hkl (HF.out.ext (Ext.refl wr).drew)).mono ?_); rw [HHB.out]; rintro e w3 ⟨rfl, hE3⟩; have g3 := (Ext.refl wr).drew.trans hE3) | fail)
        have HE3 := Lib.hid (HE.out.trans g3)
        clear g3 hE3 hcell
        cases hb with
        | true =>
          have HD := Lib.hid (dcN_yes HX.out (of_decide_eq_true HHB.out))
          go_wp2
          go_roundw
          case rel => exact ⟨k + 1, by omega, by go_num, by rw [HD.out], HE3.out⟩
          case measure => simp [intOf]; omega
        | false =>
          have HD := Lib.hid (dcN_no HX.out (of_decide_eq_false HHB.out))
          go_wp2
          go_roundw
          case rel => exact ⟨k + 1, by omega, by go_num, by rw [HD.out]; go_num, HE3.out⟩
          case measure => simp [intOf]; omega
      · obtain rfl : k = n := by omega
        go_wp2
        go_ret
        exact ⟨ret_int HR.out, HE.out⟩
  · have HR : Hid ((0 : Int) = dcB xs) := Lib.hid (by unfold dcB; rw [HN.out, if_neg hbig])
    go_enter Try.func19, Try.ntmps19
    go_wp2
    have hn0 : ¬ (n : Int) ≤ 600 := by omega
    go_loopw [3, 4] (fun cv iv wr => iv = .int .i64 0 ∧ cv = .int .i64 0 ∧ Ext w wr) (fun _ iv _ => 0)
    case atStart => exact ⟨rfl, rfl, Ext.refl w⟩
    case round =>
      obtain ⟨rfl, rfl, hE⟩ := hrel
      go_wp2
      go_ret
      exact ⟨ret_int HR.out, hE⟩
theorem DistinctCells_any (p : Option Addr) (n c : Nat) (xs : List Int) (w : World) (hn : xs.length = n) (hs : IntsAt w (.slice p n c) xs) :
    Calls Try.prog 20 #[.slice p n c] w fun e w' => e = .returned (.int .i64 (dcB xs)) ∧ Ext w w' := by
  obtain ⟨hm, -⟩ := hs.cl
  have HN := Lib.hid hn; have HS := Lib.hid hs
  clear hn hs
  by_cases hbig : (600 : Int) < (n : Int)
  · have HR : Hid ((0 : Int) = dcB xs) := Lib.hid (by unfold dcB; rw [HN.out, if_neg (by omega)])
    go_enter Try.func20, Try.ntmps20
    go_wp2
    go_ret
    exact ⟨ret_int HR.out, Ext.refl w⟩
  · have HR : Hid (((ascL xs).length : Int) = dcB xs) := Lib.hid (by unfold dcB; rw [HN.out, if_pos (by omega), dcN_asc, HN.out])
    have HG := Lib.hid (ascL_len xs)
    have hcl : Calls Try.prog 42 #[.slice p n c] w (fun e w' => ∃ v', e = .returned v' ∧ IntsOwn w.heap.size w' v' xs ∧ Ext w w') := by
      by_cases h0 : n = 0
      · subst h0
        obtain rfl : xs = [] := List.eq_nil_of_length_eq_zero HN.out
        cases p with
        | none =>
          refine (Try.slices_Clone_int_nil 0 c w).mono ?_
          rintro e w1 ⟨rfl, rfl⟩
          exact ⟨_, rfl, World.ownsRow_nil _ _ _ _, Ext.refl _⟩
        | some a =>
          refine (Try.slices_Clone_int_zero a c w).mono ?_
          rintro e w1 ⟨v', rfl, h1, -, h2⟩
          exact ⟨_, rfl, h1, h2⟩
      · obtain ⟨x0, hx0⟩ := get_some (xs := xs) (k := 0) (by rw [HN.out]; omega)
        obtain ⟨-, hc⟩ := HS.out.cl
        obtain ⟨b, off, rfl, -⟩ := hc 0 x0 hx0
        have hcells : ∀ j, j < xs.length → w.cell? ⟨b, off + j, none⟩ = some (.int .i64 (xs.getD j 0)) := fun j hj => by
          obtain ⟨y, hy⟩ := get_some hj
          obtain ⟨b', off', e, h⟩ := hc j y hy
          cases e
          rw [h, List.getD_eq_getElem?_getD, hy]; rfl
        refine (Try.slices_Clone_int b off n c xs w (by rw [HN.out]; exact Nat.le_refl _) (by omega) hcells).mono ?_
        rintro e w1 ⟨v', rfl, h1, -, h2⟩
        rw [List.take_of_length_le (by rw [HN.out]; exact Nat.le_refl _)] at h1
        exact ⟨_, rfl, IntsOwn.mk h1 HN.out, h2⟩
    have HCL := Lib.hid hcl
    clear hcl
    go_enter Try.func20, Try.ntmps20
    go_wp2_with (fail)
    refine HCL.out.mono ?_
    rintro e w1 ⟨v1, rfl, hv1, hE1⟩
    obtain ⟨q1, d1, rfl⟩ : ∃ q1 d1, v1 = .slice q1 n d1 := by
      rcases hv1.2 with ⟨rfl, h0⟩ | ⟨g, cap, cur, e, _⟩
      · rw [HN.out] at h0; subst h0; exact ⟨_, _, rfl⟩
      · rw [HN.out] at e; exact ⟨_, _, e⟩
    have HV1 := Lib.hid hv1; have HE1 := Lib.hid hE1
    clear hv1 hE1
    go_wp2_with (fail)
    refine (ascending_any w.heap.size q1 n d1 xs _ HN.out HV1.out (by omega)).mono ?_
    rintro e w2 ⟨⟨v2, rfl, hv2⟩, hl2⟩
    have HE2 := Lib.hid (hl2.ext0 HE1.out (fun b hb h => by omega))
    obtain ⟨q2, d2, rfl⟩ : ∃ q2 d2, v2 = .slice q2 (ascL xs).length d2 := by
      rcases hv2.2 with ⟨rfl, h0⟩ | ⟨g, cap, cur, e, _⟩
      · exact ⟨none, 0, by rw [h0]⟩
      · exact ⟨_, _, e⟩
    clear hv2 hl2
    go_wp2
    go_ret
    exact ⟨ret_int HR.out, HE2.out⟩
end Go.Proofs.Ytggpjapmhakklaa
