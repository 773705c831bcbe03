/- The text of a side of a loop: the model's. No statement is proved here. -/
import Derived.Test.YtcpbfefgjpimiaaDoorT9
import Derived.Test.YtcpbfefgjpimiaaDoorN0
namespace Go.Proofs.YtcpbfefgjpimiaaDoor
open Go.RowKit

/-- Texts with commas between them. -/
def sj : List (List UInt8) → List UInt8
  | [] => []
  | t :: ts => t ++ ts.flatMap (fun u => 44 :: u)
theorem sj_one (t : List UInt8) : sj ([] ++ [t]) = t := by simp [sj]
theorem sj_snoc {l : List (List UInt8)} (h : l ≠ []) (t : List UInt8) : sj (l ++ [t]) = sj l ++ [44] ++ t := by
  cases l with
  | nil => exact absurd rfl h
  | cons a l => simp [sj, List.flatMap_append]
def sideT (xs : List Aff) : List UInt8 := sj (xs.map fun a => txt a.1 a.2)
theorem sideT_zero {xs : List Aff} {a : Aff} (h : xs[0]? = some a) : sideT (xs.take 1) = txt a.1 a.2 := by
  rw [show (1 : Nat) = 0 + 1 from rfl, take_next h]; simp [sideT, sj]
theorem sideT_next {xs : List Aff} {j : Nat} {a : Aff} (h : xs[j]? = some a) (hj : j ≠ 0) : sideT (xs.take (j + 1)) = sideT (xs.take j) ++ [44] ++ txt a.1 a.2 := by
  have hl := (List.getElem?_eq_some_iff.1 h).1
  rw [take_next h]
  unfold sideT
  rw [List.map_append]
  exact sj_snoc (by
    intro e
    have h0 := congrArg List.length (List.map_eq_nil_iff.1 e)
    rw [List.length_take, List.length_nil] at h0
    omega) _
theorem txt_len {xs : List Int} {k : Int} (h : affValidB xs k = true) : (txt xs k).length ≤ 24 := by
  have h4 := affValidB_len h
  have h1 := rawC_len 0 xs
  have h2 := dg_len k.natAbs
  unfold txt
  split
  · simp
  · refine Nat.le_trans (strip_len _) ?_
    unfold raw
    split
    · simp; omega
    · simp [tc]; omega
theorem sj_len (l : List (List UInt8)) (h : ∀ t ∈ l, t.length ≤ 24) : (sj l).length ≤ 25 * l.length := by
  cases l with
  | nil => simp [sj]
  | cons a l =>
    have ha := h a (by simp)
    have hl : ∀ t ∈ l, t.length ≤ 24 := fun t ht => h t (by simp [ht])
    have : (l.flatMap (fun u => 44 :: u)).length ≤ 25 * l.length := by
      clear h ha
      induction l with
      | nil => simp
      | cons b l ih =>
        have hb := hl b (by simp)
        have := ih (fun t ht => hl t (by simp [ht]))
        simp only [List.flatMap_cons, List.length_append, List.length_cons] at *
        omega
    simp only [sj, List.length_append, List.length_cons]
    omega
theorem sideT_len {xs : List Aff} (h : ∀ a ∈ xs, affValidB a.1 a.2 = true) : (sideT xs).length ≤ 25 * xs.length := by
  have := sj_len (xs.map fun a => txt a.1 a.2) (by
    intro t ht
    obtain ⟨a, ha, rfl⟩ := List.mem_map.1 ht
    exact txt_len (h a ha))
  simpa [sideT] using this

set_option maxRecDepth 100000 in
set_option maxHeartbeats 600000 in
theorem l2SideText_any (v : Value) (xs : List Aff) (w : World) (hs : AffsAt w v xs) (hn : xs.length ≤ 100) (hv : ∀ a ∈ xs, affValidB a.1 a.2 = true) :
    Calls Tryd.prog 71 #[v] w fun e w' => e = .returned (.string ⟨(sideT xs).toArray⟩) ∧ Ext w w' := by
  obtain ⟨p, c, rfl, hm⟩ := hs.form
  obtain ⟨n, hxn⟩ : ∃ n, xs.length = n := ⟨_, rfl⟩
  rw [hxn] at hs hn hm ⊢
  have HS := Lib.hid hs; have HV := Lib.hid hv; have HN := Lib.hid hxn; clear hs hv hxn
  go_enter Tryd.func71, Tryd.ntmps71
  go_wp2
  go_loopw [3, 4] (fun o i wr => ∃ j : Nat, j ≤ n ∧ i = .int .i64 j ∧ o = .string ⟨(sideT (xs.take j)).toArray⟩ ∧ Ext w wr) (fun _ i _ => n - (intOf i).toNat)
  case atStart => exact ⟨0, by omega, rfl, rfl, Ext.refl _⟩
  case round =>
    obtain ⟨j, hj, rfl, rfl, hE⟩ := hrel
    have HE := Lib.hid hE
    by_cases hlt : j < n
    · obtain ⟨a, ha⟩ := get_some (xs := xs) (k := j) (by rw [HN.out]; exact hlt)
      have hva := HV.out a (List.mem_of_getElem? ha)
      obtain ⟨b, off, q, m, rfl, c0, c1, hb, hr⟩ := (HS.out.ext hE).elem ha
      obtain ⟨x1, x2⟩ := a
      dsimp only at *
      obtain ⟨a0, a1, a2, a3, rfl, -⟩ := valid_four hva
      have htl := txt_len hva
      have hlen := sideT_len (xs := xs.take j) (fun z hz => HV.out z (List.mem_of_mem_take hz))
      have hlt2 : (xs.take j).length = j := by rw [List.length_take, HN.out]; omega
      rw [hlt2] at hlen
      obtain ⟨R, hR⟩ : ∃ R, sideT (xs.take j) = R := ⟨_, rfl⟩
      rw [hR] at hlen ⊢
      have hR3 : R.length ≤ 2500 := by omega
      have HX := Lib.hid ha; have HR := Lib.hid hr; have HVA := Lib.hid hva; have HRR := Lib.hid hR
      obtain ⟨T, hT⟩ : ∃ T, txt [a0, a1, a2, a3] x2 = T := ⟨_, rfl⟩
      rw [hT] at htl
      have HT := Lib.hid hT
      clear ha hr hva hE hlen hlt2 hR hT
      by_cases hj0 : j = 0
      · have hz : decide (0 < j) = false := by simp; omega
        have HF : Hid (sideT (xs.take (j + 1)) = R ++ T) := Lib.hid (by
          subst hj0
          rw [sideT_zero HX.out, ← HRR.out, ← HT.out]
          rfl)
        clear hj0
        go_wp2_with (fail)
        refine (l1Text_any _ a0 a1 a2 a3 x2 _ HR.out HVA.out).mono ?_
        rw [HT.out]
        rintro e w1 ⟨rfl, hE1⟩
        have HE1 := Lib.hid (HE.out.trans hE1); clear hE1
        go_wp2
        go_roundw
        case rel => exact ⟨j + 1, by omega, by go_num, by rw [HF.out, ← str_app], HE1.out⟩
        case measure => simp [intOf]; omega
      · have hz : decide (0 < j) = true := by simp; omega
        have HF : Hid (sideT (xs.take (j + 1)) = R ++ [44] ++ T) := Lib.hid (by rw [sideT_next HX.out hj0, HRR.out, HT.out])
        clear hj0
        go_wp2_with (fail)
        refine (l1Text_any _ a0 a1 a2 a3 x2 _ HR.out HVA.out).mono ?_
        rw [HT.out]
        rintro e w1 ⟨rfl, hE1⟩
        have HE1 := Lib.hid (HE.out.trans hE1); clear hE1
        go_wp2
        go_roundw
        case rel => exact ⟨j + 1, by omega, by go_num, by rw [HF.out, ← str_app, ← str_app], HE1.out⟩
        case measure => simp [intOf]; omega
    · have hjn : j = n := by omega
      have HF : Hid (sideT (xs.take j) = sideT xs) := Lib.hid (by rw [List.take_of_length_le (by rw [HN.out]; omega)])
      clear hjn
      go_wp2
      go_ret
      exact ⟨by rw [HF.out]; rfl, HE.out⟩
end Go.Proofs.YtcpbfefgjpimiaaDoor
