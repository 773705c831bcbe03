/- The model's NestPoints; a point of about a nest; the arguments of PointIn. -/
import Derived.Test.YtabkhiakekammaaR3
import Derived.Test.YtabkhiakekammaaQ4
import Derived.Test.YtabkhiakekammaaQ5
import Derived.Test.YtabkhiakekammaaN15
namespace Go.Proofs.Ytabkhiakekammaa
open Go.RowKit

/-- Whether the document's NestPoints lists a nest's points, and which. -/
def nptsB (ls : List Lp) : Bool := nestB ls && (decide (work ls ls.length [] 1200 ≤ 1200) && decide ((pts ls ls.length [] []).length ≤ 120))
def nptsL (ls : List Lp) : List (List Int) := if nptsB ls = true then pts ls ls.length [] [] else []
theorem IntsOwn.dr {B g : Nat} {w w' : World} {v : Value} {xs : List Int} (h : IntsOwn B w v xs) (hD : Dr w g w') (hB : g < B) : IntsOwn B w' v xs := row_dr h hD hB
theorem PtsOwn.dr {B g : Nat} {w w' : World} {v : Value} {xss : List (List Int)} (h : PtsOwn B w v xss) (hD : Dr w g w') (hB : g < B) : PtsOwn B w' v xss := by
  obtain ⟨vs, ho, he⟩ := h
  exact ⟨vs, row_dr ho hD hB, fun i xs hi => by obtain ⟨u, h0, h1⟩ := he i xs hi; exact ⟨u, h0, h1.dr hD hB⟩⟩
theorem PtsOwn.weak {B B' : Nat} {w : World} {v : Value} {xss : List (List Int)} (h : PtsOwn B w v xss) (hB : B' ≤ B) : PtsOwn B' w v xss := by
  obtain ⟨vs, ho, he⟩ := h
  exact ⟨vs, ownsRow_weak ho hB, fun i xs hi => by obtain ⟨u, h0, h1⟩ := he i xs hi; exact ⟨u, h0, h1.weak hB⟩⟩
theorem PtsOwn.get {B m c i : Nat} {w : World} {p : Option Addr} {xss : List (List Int)} (h : PtsOwn B w (.slice p m c) xss) (hm : xss.length = m) (hi : i < m) : ∃ g xs u, p = some ⟨g, 0, none⟩ ∧ w.cell? ⟨g, i, none⟩ = some u ∧ IntsOwn B w u xs ∧ xs ∈ xss := by
  obtain ⟨vs, ho, he⟩ := h
  rw [hm] at ho
  obtain ⟨xs, hx⟩ := get_some (xs := xss) (k := i) (by omega)
  obtain ⟨u, h0, h1⟩ := he i xs hx
  have hne : (Value.slice p m c) ≠ .slice none 0 0 := by intro e; simp at e; omega
  obtain ⟨g, c', e, -⟩ := own_form' ho hne
  simp only [Value.slice.injEq] at e
  obtain ⟨rfl, -, rfl⟩ := e
  exact ⟨g, xs, u, rfl, by rw [ho.cellAt i (by omega)]; exact h0, h1, List.mem_of_getElem? hx⟩

theorem ptsLoop_mem {P : List Int → Prop} {f : Int → List (List Int) → List (List Int)} {L H : Int} (hf : ∀ v o, L ≤ v → v < H → (∀ x ∈ o, P x) → ∀ x ∈ f v o, P x) : ∀ (k : Nat) (v : Int) (o : List (List Int)), L ≤ v → (0 < k → v + k ≤ H) → (∀ x ∈ o, P x) → ∀ x ∈ ptsLoop f k v o, P x
  | 0, _, _, _, _, ho => ho
  | k + 1, v, o, h1, h2, ho => by
    simp only [ptsLoop]
    have h3 := h2 (by omega)
    split
    · exact ptsLoop_mem hf k (v + 1) _ (by omega) (fun _ => by omega) (hf v o h1 (by omega) ho)
    · exact ho
/-- Every point that is listed keeps the bounds. -/
theorem pts_PB {ls : List Lp} (hv : nestB ls = true) : ∀ (d : Nat) (ps : List Int) (out : List (List Int)), ps.length + d = ls.length → PB ps → (∀ x ∈ out, PB x) → ∀ x ∈ pts ls d ps out, PB x
  | 0, ps, out, _, hp, ho => by
    simp only [pts]
    intro x hx
    rcases List.mem_append.1 hx with h | h
    · exact ho x h
    · simp at h; rw [h]; exact hp
  | d + 1, ps, out, hd, hp, ho => by
    simp only [pts]
    have h4 : ls.length ≤ 4 := (nestB_iff.1 hv).1
    obtain ⟨x, hx⟩ := get_some (xs := ls) (k := ps.length) (by omega)
    obtain ⟨s1, s2⟩ := nest_side hv hx
    rw [lpAt_of hx]
    have b1 := lo_bd s1 hp (by omega)
    have b2 := hi_bd s2 hp (by omega)
    exact ptsLoop_mem (P := PB) (L := loV x ps) (H := hiV x ps) (fun v o h1 h2 ho => pts_PB hv d (ps ++ [v]) o (by rw [List.length_append]; simp; omega) (hp.push (by omega) (by omega)) ho) _ _ _ (Int.le_refl _) (fun h => by omega) ho
theorem npts_PB {ls : List Lp} {xs : List Int} (h : xs ∈ nptsL ls) : PB xs := by
  unfold nptsL at h
  split at h
  · rename_i hb
    simp only [nptsB, Bool.and_eq_true] at hb
    exact pts_PB hb.1 _ [] [] (by simp) PB.nil (by simp) xs h
  · simp at h

set_option linter.unusedVariables false in
set_option maxHeartbeats 4000000 in
theorem specNestPoints_any (p : Option Addr) (n c : Nat) (ls : List Lp) (w : World) (hn : ls.length = n) (hs : LoopsAt w (.slice p n c) ls) :
    Calls Try.prog 48 #[.slice p n c] w fun e w' => (∃ v' b, e = .returned (.tuple #[v', .bool b]) ∧ b = nptsB ls ∧ PtsOwn w.heap.size w' v' (nptsL ls)) ∧ Ext w w' := by
  have HS := Lib.hid hs; have HN := Lib.hid hn; clear hs hn
  have HM : ∀ w1 : World, Ext w w1 → nptsB ls = false → Hid (PtsOwn w.heap.size (w1.alloc (.cells #[] 23)) (.slice (some ⟨w1.heap.size, 0, none⟩) 0 0) (nptsL ls)) := fun w1 E1 hf => Lib.hid (by
    rw [show nptsL ls = [] by simp [nptsL, hf]]
    exact PtsOwn.made (ownsRow_weak (World.ownsRow_made w1 #[] 0 (Nat.le_refl _) (Nat.zero_le _) rfl) E1.size_le))
  cases hv : nestB ls with
  | false =>
    have HV := Lib.hid hv; clear hv
    have HB : Hid (nptsB ls = false) := Lib.hid (by simp [nptsB, HV.out])
    go_enter Try.func48, Try.ntmps48
    go_wp2_with (fail)
    refine (specNestValid_any _ _ _ ls _ HN.out HS.out).mono ?_
    rw [HV.out]
    rintro e w1 ⟨rfl, E1⟩
    have HR := HM w1 E1 HB.out
    clear HM
    go_wp2
    exact bodyPost_ret (v := .tuple #[.slice (some ⟨w1.heap.size, 0, none⟩) 0 0, .bool false]) (by simp [results, Try.results48, go_sem]) rfl ⟨⟨_, _, rfl, HB.out.symm, HR.out⟩, E1.alloc _⟩
  | true =>
    have HV := Lib.hid hv; clear hv
    go_enter Try.func48, Try.ntmps48
    go_wp2_with (fail)
    refine (specNestValid_any _ _ _ ls _ HN.out HS.out).mono ?_
    rw [HV.out]
    rintro e w1 ⟨rfl, E1⟩
    go_wp2_with (fail)
    refine (l2WorkNil p n c ls HV.out HN.out n [] 1200 w1 rfl rfl PB.nil (HS.out.ext E1) (by omega) (by omega)).mono ?_
    rintro e w2 ⟨rfl, E2⟩
    obtain ⟨k, hk⟩ : ∃ k, work ls n [] 1200 = k := ⟨_, rfl⟩
    rw [hk]
    have HK := Lib.hid hk; clear hk
    have E02 := Lib.hid (E1.trans E2)
    clear E1 E2
    by_cases hw : k ≤ 1200
    · have hb : decide ((1200 : Int) < k) = false := by simp; omega
      have HWK : Hid (k ≤ 1200) := Lib.hid hw
      clear hw
      have HP0 : Hid (PtsOwn w2.heap.size (w2.alloc (.cells #[] 23)) (.slice (some ⟨w2.heap.size, 0, none⟩) 0 0) []) := Lib.hid (PtsOwn.made (World.ownsRow_made w2 #[] 0 (Nat.le_refl _) (Nat.zero_le _) rfl))
      go_wp2_with (fail)
      refine (l2PtsNil w2 p n c ls HV.out HN.out (HS.out.ext E02.out) n [] _ [] _ rfl rfl PB.nil HP0.out (by simp) ((Ext.refl w2).alloc _)).mono ?_
      rintro e w3 ⟨⟨v', rfl, ho⟩, E3, -⟩
      clear HP0
      obtain ⟨q, d, rfl⟩ := ho.slice
      have hbd : (pts ls n [] []).length ≤ 121 := pts_bd ls n [] [] (by simp)
      obtain ⟨m, hm⟩ : ∃ m, (pts ls n [] []).length = m := ⟨_, rfl⟩
      rw [hm] at ho hbd ⊢
      have HMM := Lib.hid hm; have HO := Lib.hid ho; clear hm ho
      have E03 := Lib.hid (E02.out.trans E3); clear E3
      by_cases hl : m ≤ 120
      · have hb2 : decide ((120 : Int) < (m : Int)) = false := by simp; omega
        have HB : Hid (nptsB ls = true) := Lib.hid (by simp only [nptsB, HN.out, HV.out, HK.out, HMM.out, Bool.true_and, Bool.and_eq_true, decide_eq_true_eq]; exact ⟨HWK.out, hl⟩)
        have HQ : Hid (PtsOwn w.heap.size w3 (.slice q m d) (nptsL ls)) := Lib.hid (by
          rw [show nptsL ls = pts ls n [] [] by simp [nptsL, HB.out, HN.out]]
          exact HO.out.weak E02.out.size_le)
        clear HM hl
        go_wp2
        exact bodyPost_ret (v := .tuple #[.slice q m d, .bool true]) (by simp [results, Try.results48, go_sem]) rfl ⟨⟨_, _, rfl, HB.out.symm, HQ.out⟩, E03.out⟩
      · have hb2 : decide ((120 : Int) < (m : Int)) = true := by simp; omega
        have HB : Hid (nptsB ls = false) := Lib.hid (by simp only [nptsB, HN.out, HV.out, HK.out, HMM.out, Bool.true_and, Bool.and_eq_false_iff, decide_eq_false_iff_not]; exact .inr hl)
        have HR := HM w3 E03.out HB.out
        clear HM hl
        go_wp2
        exact bodyPost_ret (v := .tuple #[.slice (some ⟨w3.heap.size, 0, none⟩) 0 0, .bool false]) (by simp [results, Try.results48, go_sem]) rfl ⟨⟨_, _, rfl, HB.out.symm, HR.out⟩, E03.out.alloc _⟩
    · have hb : decide ((1200 : Int) < k) = true := by simp; omega
      have HB : Hid (nptsB ls = false) := Lib.hid (by simp only [nptsB, HN.out, HV.out, HK.out, Bool.true_and, Bool.and_eq_false_iff, decide_eq_false_iff_not]; exact .inl hw)
      have HR := HM w2 E02.out HB.out
      clear HM hw
      go_wp2
      exact bodyPost_ret (v := .tuple #[.slice (some ⟨w2.heap.size, 0, none⟩) 0 0, .bool false]) (by simp [results, Try.results48, go_sem]) rfl ⟨⟨_, _, rfl, HB.out.symm, HR.out⟩, E02.out.alloc _⟩
end Go.Proofs.Ytabkhiakekammaa
