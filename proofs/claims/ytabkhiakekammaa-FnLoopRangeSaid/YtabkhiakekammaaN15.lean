/- Contracts: PointIn and its model. -/
import Derived.Test.YtabkhiakekammaaN14
import Derived.BigQuiet
import Derived.Deep.QuietTactic
namespace Go.Proofs.Ytabkhiakekammaa
open Go.RowKit

/-- The coordinate i of the point is in the range of its loop. -/
def inB (ls : List Lp) (ps : List Int) (i : Nat) : Bool := decide (loV (ls.getD i ([], [])) (ps.take i) ≤ ps.getD i 0 ∧ ps.getD i 0 < hiV (ls.getD i ([], [])) (ps.take i))
def pointB (ls : List Lp) (ps : List Int) : Bool := nestB ls && (ptB ps && (decide (ps.length = ls.length) && (List.range ls.length).all (inB ls ps)))
theorem inB_eq {ls : List Lp} {ps : List Int} {i : Nat} {x : Lp} {v : Int} (hx : ls[i]? = some x) (hv : ps[i]? = some v) : inB ls ps i = decide (loV x (ps.take i) ≤ v ∧ v < hiV x (ps.take i)) := by
  unfold inB; rw [List.getD_eq_getElem?_getD, hx, List.getD_eq_getElem?_getD, hv]; rfl
theorem pointB_yes {ls : List Lp} {ps : List Int} {n : Nat} (h1 : nestB ls = true) (h2 : ptB ps = true) (hl : ls.length = n) (hp : ps.length = n) (h : ∀ i, i < n → inB ls ps i = true) : pointB ls ps = true := by
  unfold pointB; rw [h1, h2, hl, hp]
  simp only [Bool.true_and, decide_true, List.all_eq_true, List.mem_range]
  exact h
theorem pointB_no {ls : List Lp} {ps : List Int} {i : Nat} (hi : i < ls.length) (h : inB ls ps i = false) : pointB ls ps = false := by
  cases hb : pointB ls ps with
  | false => rfl
  | true =>
    unfold pointB at hb
    simp only [Bool.and_eq_true, List.all_eq_true, List.mem_range] at hb
    rw [hb.2.2.2 i hi] at h; cases h
/-- A beginning of a list of ints reads where the whole list does. -/
theorem IntsAt.front {w : World} {p : Option Addr} {n c : Nat} {ps : List Int} (h : IntsAt w (.slice p n c) ps) {k : Nat} (hk : k ≤ n) : IntsAt w (.slice p k c) (ps.take k) := by
  obtain ⟨p', c', hv, hm, hc⟩ := h
  cases hv
  have hl : (ps.take k).length = k := by rw [List.length_take]; omega
  refine ⟨p, c, by rw [hl], by omega, fun i x hi => ?_⟩
  rw [List.getElem?_take] at hi
  split at hi
  · exact hc i x hi
  · cases hi
theorem ptB_take {ps : List Int} (h : ptB ps = true) (k : Nat) : ptB (ps.take k) = true := by
  simp only [ptB, Bool.and_eq_true, decide_eq_true_eq, List.all_eq_true] at *
  refine ⟨by rw [List.length_take]; omega, fun x hx => h.2 x (List.mem_of_mem_take hx)⟩

theorem IntsOwn.cap {B : Nat} {w : World} {p : Option Addr} {n c : Nat} {xs : List Int} (h : IntsOwn B w (.slice p n c) xs) : n ≤ c := by
  rcases h.2 with ⟨hv, hn⟩ | ⟨g, cap, cur, hv, _, _, h1, _⟩
  · cases hv; omega
  · cases hv; exact h1

set_option maxHeartbeats 4000000 in
theorem specPointIn_any (p : Option Addr) (n c : Nat) (ls : List Lp) (u : Value) (ps : List Int) (w : World) (hn : ls.length = n) (hs : LoopsAt w (.slice p n c) ls) (hu : IntsAt w u ps) (hcap : ∀ q n' d, u = .slice q n' d → n' ≤ d) :
    Calls Try.prog 41 #[.slice p n c, u] w fun e w' => e = .returned (.bool (pointB ls ps)) ∧ Ext w w' := by
  have HS := Lib.hid hs; have HN := Lib.hid hn; have HU := Lib.hid hu; clear hs hn hu
  obtain ⟨pu, cu, rfl, hmu, -⟩ := HU.out
  have hcap' := hcap _ _ _ rfl
  clear hcap
  have hn63 : n ≤ 9223372036854775807 := by obtain ⟨_, _, hv, hm, _⟩ := HS.out; rw [← HN.out]; exact hm
  cases hv : nestB ls with
  | false =>
    have HV := Lib.hid hv; clear hv
    go_enter Try.func41, Try.ntmps41
    go_wp2_with (fail)
    refine (specNestValid_any _ _ _ ls _ HN.out HS.out).mono ?_
    rw [HV.out]
    rintro e w1 ⟨rfl, E1⟩
    go_wp2
    go_ret
    exact ⟨ret_bool (by simp [pointB, HV.out]), E1⟩
  | true =>
    cases hp : ptB ps with
    | false =>
      have HV := Lib.hid hv; have HP := Lib.hid hp; clear hv hp
      go_enter Try.func41, Try.ntmps41
      go_wp2_with (fail)
      refine (specNestValid_any _ _ _ ls _ HN.out HS.out).mono ?_
      rw [HV.out]
      rintro e w1 ⟨rfl, E1⟩
      go_wp2_with (fail)
      refine (l1Point_any _ ps _ (HU.out.ext E1)).mono ?_
      rw [HP.out]
      rintro e w2 ⟨rfl, rfl⟩
      go_wp2
      go_ret
      exact ⟨ret_bool (by simp [pointB, HP.out]), E1⟩
    | true =>
      have HV := Lib.hid hv; have HP := Lib.hid hp; clear hv hp
      generalize hk : ps.length = n' at *
      by_cases hlt : n' = n
      · subst hlt
        have HK := Lib.hid hk; clear hk
        go_enter Try.func41, Try.ntmps41
        go_wp2_with (fail)
        refine (specNestValid_any _ _ _ ls _ HN.out HS.out).mono ?_
        rw [HV.out]
        rintro e w1 ⟨rfl, E1⟩
        go_wp2_with (fail)
        refine (l1Point_any _ ps _ (HU.out.ext E1)).mono ?_
        rw [HP.out]
        rintro e w2 ⟨rfl, rfl⟩
        go_wp2
        go_loopw [5] (fun i wr => ∃ k : Nat, k ≤ n' ∧ i = .int .i64 k ∧ (∀ j, j < k → inB ls ps j = true) ∧ Ext w wr) (fun i _ => n' - (intOf i).toNat)
        case atStart => exact ⟨0, by omega, rfl, fun j h => absurd h (by omega), E1⟩
        case round =>
          clear E1
          obtain ⟨k, hk, rfl, hall, hE⟩ := hrel
          have HA := Lib.hid hall; clear hall
          by_cases hlt : k < n'
          · obtain ⟨x, hx⟩ := get_some (xs := ls) (k := k) (by rw [HN.out]; exact hlt)
            obtain ⟨v, hv⟩ := get_some (xs := ps) (k := k) (by rw [HK.out]; exact hlt)
            obtain ⟨b, off, q1, m1, q2, m2, rfl, c0, c1, hb, hr1, hr2⟩ := (HS.out.ext hE).elem hx
            obtain ⟨p2, d2, ev, _, hc⟩ := (HU.out.ext hE).get
            simp only [Value.slice.injEq] at ev
            obtain ⟨rfl, -, rfl⟩ := ev
            obtain ⟨b2, off2, rfl, cv, hb2⟩ := hc k v hv
            have HF := Lib.hid ((HU.out.ext hE).front (k := k) hk)
            obtain ⟨s1, s2⟩ := nest_side HV.out hx
            have HI := Lib.hid (inB_eq hx hv)
            have HR1 := Lib.hid hr1; have HR2 := Lib.hid hr2; have S1 := Lib.hid s1; have S2 := Lib.hid s2; have HPK := Lib.hid (ptB_take HP.out k)
            clear hr1 hr2 s1 s2 hc hx hv
            have hk0 : (0 : Int) ≤ (k : Int) := by omega
            have hk1 : (k : Int) ≤ (cu : Int) := by omega
            have hk2 : (k : Int) < (n' : Int) := by omega
            go_wp2_with (fail)

            go_region_held3 (fun W => W.cell? ⟨b, off + k * 2, none⟩ = some (.slice q1 x.1.length m1) ∧ W.cell? ⟨b, off + k * 2 + 1, none⟩ = some (.slice q2 x.2.length m2))
              (first
                | exact (by first | exact ⟨c0, c1⟩ | exact ⟨g3.keep c0, g3.keep c1⟩)
                | fail)
              (first
                | (go_at_call 94; (with_reducible refine (l2Range_any _ _ x _ (ps.take k) _ (HR1.out.ext (Ext.refl wr).drew) (HR2.out.ext (Ext.refl wr).drew) (HF.out.ext (Ext.refl wr).drew) S1.out S2.out HPK.out).mono ?_); rintro e w3 ⟨rfl, hE3⟩; have g3 : Ext wr w3 := (Ext.refl wr).drew.trans hE3)
                | fail)
            replace cv := g3.keep cv
            clear c0 c1
            generalize loV x (ps.take k) = lo at *
            generalize hiV x (ps.take k) = hi at *
            by_cases h1 : v < lo
            · have hd : decide (v < lo) = true := by simpa using h1
              have H1 := Lib.hid h1; clear h1
              go_wp2
              go_ret
              exact ⟨ret_bool (pointB_no (i := k) (by rw [HN.out]; exact hlt) (by rw [HI.out]; have := H1.out; simp; omega)).symm, hE.trans g3⟩
            · have hd : decide (v < lo) = false := by simpa using h1
              have H1 := Lib.hid h1; clear h1
              by_cases h2 : hi ≤ v
              · have hd2 : decide (hi ≤ v) = true := by simpa using h2
                have H2 := Lib.hid h2; clear h2
                go_wp2
                go_ret
                exact ⟨ret_bool (pointB_no (i := k) (by rw [HN.out]; exact hlt) (by rw [HI.out]; have := H2.out; simp; omega)).symm, hE.trans g3⟩
              · have hd2 : decide (hi ≤ v) = false := by simpa using h2
                have H2 := Lib.hid h2; clear h2
                go_wp2
                go_roundw
                case rel =>
                  refine ⟨k + 1, by omega, by go_num, fun j hj => ?_, hE.trans g3⟩
                  by_cases e : j = k
                  · subst e; rw [HI.out]; have := H1.out; have := H2.out; simp; omega
                  · exact HA.out j (by omega)
                case measure => simp [intOf]; omega
          · have e : k = n' := by omega
            subst e
            go_wp2
            go_ret
            exact ⟨ret_bool (pointB_yes HV.out HP.out HN.out HK.out HA.out).symm, hE⟩
      · have HK := Lib.hid hk; clear hk
        have hb : ((n' : Int) != n) = true := by simp; omega
        have HNE := Lib.hid hlt; clear hlt
        go_enter Try.func41, Try.ntmps41
        go_wp2_with (fail)
        refine (specNestValid_any _ _ _ ls _ HN.out HS.out).mono ?_
        rw [HV.out]
        rintro e w1 ⟨rfl, E1⟩
        go_wp2_with (fail)
        refine (l1Point_any _ ps _ (HU.out.ext E1)).mono ?_
        rw [HP.out]
        rintro e w2 ⟨rfl, rfl⟩
        go_wp2
        go_ret
        exact ⟨ret_bool (by simp [pointB, HK.out, HN.out, HNE.out]), E1⟩


set_option maxHeartbeats 4000000 in
theorem PointIn_any (p : Option Addr) (n c : Nat) (ls : List Lp) (u : Value) (ps : List Int) (w : World) (hn : ls.length = n) (hs : LoopsAt w (.slice p n c) ls) (hu : IntsAt w u ps) (hcap : ∀ q n' d, u = .slice q n' d → n' ≤ d) :
    Calls Try.prog 40 #[.slice p n c, u] w fun e w' => e = .returned (.bool (pointB ls ps)) ∧ Ext w w' := by
  have HS := Lib.hid hs; have HN := Lib.hid hn; have HU := Lib.hid hu; clear hs hn hu
  obtain ⟨pu, cu, rfl, hmu, -⟩ := HU.out
  have hcap' := hcap _ _ _ rfl
  clear hcap
  have hn63 : n ≤ 9223372036854775807 := by obtain ⟨_, _, hv, hm, _⟩ := HS.out; rw [← HN.out]; exact hm
  cases hv : nestB ls with
  | false =>
    have HV := Lib.hid hv; clear hv
    go_enter Try.func40, Try.ntmps40
    go_wp2_with (fail)
    refine (NestValid_any _ _ _ ls _ HN.out HS.out).mono ?_
    rw [HV.out]
    rintro e w1 ⟨rfl, E1⟩
    go_wp2
    go_ret
    exact ⟨ret_bool (by simp [pointB, HV.out]), E1⟩
  | true =>
    cases hp : ptB ps with
    | false =>
      have HV := Lib.hid hv; have HP := Lib.hid hp; clear hv hp
      go_enter Try.func40, Try.ntmps40
      go_wp2_with (fail)
      refine (NestValid_any _ _ _ ls _ HN.out HS.out).mono ?_
      rw [HV.out]
      rintro e w1 ⟨rfl, E1⟩
      go_wp2_with (fail)
      refine (pointValid_any _ ps _ (HU.out.ext E1)).mono ?_
      rw [HP.out]
      rintro e w2 ⟨rfl, rfl⟩
      go_wp2
      go_ret
      exact ⟨ret_bool (by simp [pointB, HP.out]), E1⟩
    | true =>
      have HV := Lib.hid hv; have HP := Lib.hid hp; clear hv hp
      generalize hk : ps.length = n' at *
      by_cases hlt : n' = n
      · subst hlt
        have HK := Lib.hid hk; clear hk
        go_enter Try.func40, Try.ntmps40
        go_wp2_with (fail)
        refine (NestValid_any _ _ _ ls _ HN.out HS.out).mono ?_
        rw [HV.out]
        rintro e w1 ⟨rfl, E1⟩
        go_wp2_with (fail)
        refine (pointValid_any _ ps _ (HU.out.ext E1)).mono ?_
        rw [HP.out]
        rintro e w2 ⟨rfl, rfl⟩
        go_wp2
        go_loopw [26] (fun i wr => ∃ k : Nat, k ≤ n' ∧ i = .int .i64 k ∧ (∀ j, j < k → inB ls ps j = true) ∧ Ext w wr) (fun i _ => n' - (intOf i).toNat)
        case atStart => exact ⟨0, by omega, rfl, fun j h => absurd h (by omega), E1⟩
        case round =>
          clear E1
          obtain ⟨k, hk, rfl, hall, hE⟩ := hrel
          have HA := Lib.hid hall; clear hall
          by_cases hlt : k < n'
          · obtain ⟨x, hx⟩ := get_some (xs := ls) (k := k) (by rw [HN.out]; exact hlt)
            obtain ⟨v, hv⟩ := get_some (xs := ps) (k := k) (by rw [HK.out]; exact hlt)
            obtain ⟨b, off, q1, m1, q2, m2, rfl, c0, c1, hb, hr1, hr2⟩ := (HS.out.ext hE).elem hx
            obtain ⟨p2, d2, ev, _, hc⟩ := (HU.out.ext hE).get
            simp only [Value.slice.injEq] at ev
            obtain ⟨rfl, -, rfl⟩ := ev
            obtain ⟨b2, off2, rfl, cv, hb2⟩ := hc k v hv
            have HF := Lib.hid ((HU.out.ext hE).front (k := k) hk)
            obtain ⟨s1, s2⟩ := nest_side HV.out hx
            have HI := Lib.hid (inB_eq hx hv)
            have HR1 := Lib.hid hr1; have HR2 := Lib.hid hr2; have S1 := Lib.hid s1; have S2 := Lib.hid s2; have HPK := Lib.hid (ptB_take HP.out k)
            clear hr1 hr2 s1 s2 hc hx hv
            have hk0 : (0 : Int) ≤ (k : Int) := by omega
            have hk1 : (k : Int) ≤ (cu : Int) := by omega
            have hk2 : (k : Int) < (n' : Int) := by omega
            go_wp2_with (fail)

            go_region_held3 (fun W => W.cell? ⟨wr.heap.size, 0, none⟩ = some (.slice q1 x.1.length m1) ∧ W.cell? ⟨wr.heap.size, 1, none⟩ = some (.slice q2 x.2.length m2))
              (first
                | exact (by first | exact ⟨new0 wr _ _ _, new1 wr _ _ _ _⟩ | exact ⟨hE3.keep (new0 wr _ _ _), hE3.keep (new1 wr _ _ _ _)⟩)
                | fail)
              (first
                | (go_at_call 92; (with_reducible refine (span_any _ _ x _ (ps.take k) _ (HR1.out.ext ((Ext.refl wr).alloc _).drew) (HR2.out.ext ((Ext.refl wr).alloc _).drew) (HF.out.ext ((Ext.refl wr).alloc _).drew) S1.out S2.out HPK.out).mono ?_); rintro e w3 ⟨rfl, hE3⟩; have g3 : Ext wr w3 := ((Ext.refl wr).alloc _).drew.trans hE3)
                | fail)
            replace cv := g3.keep cv
            clear c0 c1
            generalize loV x (ps.take k) = lo at *
            generalize hiV x (ps.take k) = hi at *
            by_cases h1 : v < lo
            · have hd : decide (v < lo) = true := by simpa using h1
              have H1 := Lib.hid h1; clear h1
              go_wp2
              go_ret
              exact ⟨ret_bool (pointB_no (i := k) (by rw [HN.out]; exact hlt) (by rw [HI.out]; have := H1.out; simp; omega)).symm, hE.trans g3⟩
            · have hd : decide (v < lo) = false := by simpa using h1
              have H1 := Lib.hid h1; clear h1
              by_cases h2 : hi ≤ v
              · have hd2 : decide (hi ≤ v) = true := by simpa using h2
                have H2 := Lib.hid h2; clear h2
                go_wp2
                go_ret
                exact ⟨ret_bool (pointB_no (i := k) (by rw [HN.out]; exact hlt) (by rw [HI.out]; have := H2.out; simp; omega)).symm, hE.trans g3⟩
              · have hd2 : decide (hi ≤ v) = false := by simpa using h2
                have H2 := Lib.hid h2; clear h2
                go_wp2
                go_roundw
                case rel =>
                  refine ⟨k + 1, by omega, by go_num, fun j hj => ?_, hE.trans g3⟩
                  by_cases e : j = k
                  · subst e; rw [HI.out]; have := H1.out; have := H2.out; simp; omega
                  · exact HA.out j (by omega)
                case measure => simp [intOf]; omega
          · have e : k = n' := by omega
            subst e
            go_wp2
            go_ret
            exact ⟨ret_bool (pointB_yes HV.out HP.out HN.out HK.out HA.out).symm, hE⟩
      · have HK := Lib.hid hk; clear hk
        have hb : ((n' : Int) != n) = true := by simp; omega
        have HNE := Lib.hid hlt; clear hlt
        go_enter Try.func40, Try.ntmps40
        go_wp2_with (fail)
        refine (NestValid_any _ _ _ ls _ HN.out HS.out).mono ?_
        rw [HV.out]
        rintro e w1 ⟨rfl, E1⟩
        go_wp2_with (fail)
        refine (pointValid_any _ ps _ (HU.out.ext E1)).mono ?_
        rw [HP.out]
        rintro e w2 ⟨rfl, rfl⟩
        go_wp2
        go_ret
        exact ⟨ret_bool (by simp [pointB, HK.out, HN.out, HNE.out]), E1⟩


end Go.Proofs.Ytabkhiakekammaa
