/- Contracts: LoopRange and PointIn. -/
import Derived.Test.YtabkhiakekammaaN13
namespace Go.Proofs.Ytabkhiakekammaa
open Go.RowKit

/-- What LoopRange answers. -/
def rangeR (ls : List Lp) (ps : List Int) : Int × Int × Bool := if nestB ls = true ∧ ptB ps = true ∧ ps.length < ls.length then (loV (ls.getD ps.length ([], [])) ps, hiV (ls.getD ps.length ([], [])) ps, true) else (0, 0, false)
theorem rangeR_no {ls : List Lp} {ps : List Int} (h : nestB ls = false ∨ ptB ps = false ∨ ¬ ps.length < ls.length) : rangeR ls ps = (0, 0, false) := by
  unfold rangeR; rw [if_neg]; rintro ⟨h1, h2, h3⟩; rcases h with h | h | h
  · rw [h] at h1; cases h1
  · rw [h] at h2; cases h2
  · exact h h3
theorem rangeR_yes {ls : List Lp} {ps : List Int} {x : Lp} (h1 : nestB ls = true) (h2 : ptB ps = true) (hx : ls[ps.length]? = some x) : rangeR ls ps = (loV x ps, hiV x ps, true) := by
  unfold rangeR; rw [if_pos ⟨h1, h2, (List.getElem?_eq_some_iff.1 hx).1⟩, List.getD_eq_getElem?_getD, hx]; rfl
theorem nest_side {ls : List Lp} {i : Nat} {x : Lp} (h : nestB ls = true) (hx : ls[i]? = some x) : sideOk x.1 ∧ sideOk x.2 := by
  have := (nestB_iff.1 h).2 i x hx
  simp only [loopB, Bool.and_eq_true] at this
  exact ⟨sideOk_of this.1, sideOk_of this.2⟩


set_option maxHeartbeats 2000000 in
theorem LoopRange_any (p : Option Addr) (n c : Nat) (ls : List Lp) (u : Value) (ps : List Int) (w : World) (hn : ls.length = n) (hs : LoopsAt w (.slice p n c) ls) (hu : IntsAt w u ps) :
    Calls Try.prog 38 #[.slice p n c, u] w fun e w' => e = .returned (.tuple #[.int .i64 (rangeR ls ps).1, .int .i64 (rangeR ls ps).2.1, .bool (rangeR ls ps).2.2]) ∧ Ext w w' := by
  have HS := Lib.hid hs; have HN := Lib.hid hn; have HU := Lib.hid hu; clear hs hn hu
  obtain ⟨pu, cu, rfl, hmu, -⟩ := HU.out
  cases hv : nestB ls with
  | false =>
    rw [rangeR_no (.inl hv)]
    have HV := Lib.hid hv; clear hv
    go_enter Try.func38, Try.ntmps38
    go_wp2_with (fail)
    refine (NestValid_any _ _ _ ls _ HN.out HS.out).mono ?_
    rw [HV.out]
    rintro e w1 ⟨rfl, E1⟩
    go_wp2
    exact bodyPost_ret (v := .tuple #[.int .i64 0, .int .i64 0, .bool false]) (by simp [results, Try.results38, go_sem]) rfl ⟨rfl, E1⟩
  | true =>
    cases hp : ptB ps with
    | false =>
      rw [rangeR_no (.inr (.inl hp))]
      have HV := Lib.hid hv; have HP := Lib.hid hp; clear hv hp
      go_enter Try.func38, Try.ntmps38
      go_wp2_with (fail)
      refine (NestValid_any _ _ _ ls _ HN.out HS.out).mono ?_
      rw [HV.out]
      rintro e w1 ⟨rfl, E1⟩
      go_wp2_with (fail)
      refine (pointValid_any _ ps _ (HU.out.ext E1)).mono ?_
      rw [HP.out]
      rintro e w2 ⟨rfl, rfl⟩
      go_wp2
      exact bodyPost_ret (v := .tuple #[.int .i64 0, .int .i64 0, .bool false]) (by simp [results, Try.results38, go_sem]) rfl ⟨rfl, E1⟩
    | true =>
      by_cases hlt : ps.length < n
      · obtain ⟨x, hx⟩ := get_some (xs := ls) (k := ps.length) (by rw [HN.out]; exact hlt)
        rw [rangeR_yes hv hp hx]
        obtain ⟨s1, s2⟩ := nest_side hv hx
        have HV := Lib.hid hv; have HP := Lib.hid hp; have S1 := Lib.hid s1; have S2 := Lib.hid s2; clear hv hp s1 s2
        have hb : decide ((n : Int) ≤ ps.length) = false := by simp; omega
        have hn63 : n ≤ 9223372036854775807 := by obtain ⟨_, _, hv, hm, _⟩ := HS.out; rw [← HN.out]; exact hm
        obtain ⟨b, off, q, m, q', m', rfl, c0, c1, hbl, hr, hr'⟩ := HS.out.elem hx
        have HR := Lib.hid hr; have HR' := Lib.hid hr'; clear hr hr' hx
        generalize hk : ps.length = k at *
        have HK := Lib.hid hk; clear hk
        go_enter Try.func38, Try.ntmps38
        go_wp2_with (fail)
        refine (NestValid_any _ _ _ ls _ HN.out HS.out).mono ?_
        rw [HV.out]
        rintro e w1 ⟨rfl, E1⟩
        replace c0 := E1.keep c0
        replace c1 := E1.keep c1
        go_wp2_with (fail)
        refine (pointValid_any _ ps _ (HU.out.ext E1)).mono ?_
        rw [HP.out]
        rintro e w2 ⟨rfl, rfl⟩
        go_wp2_with (fail)
        refine (span_any _ _ x _ ps _ (HR.out.ext E1) (HR'.out.ext E1) (HU.out.ext E1) S1.out S2.out HP.out).mono ?_
        rintro e w3 ⟨rfl, hE⟩
        have E3 := E1.trans hE
        clear c0 c1
        go_wp2
        exact bodyPost_ret (v := .tuple #[.int .i64 (loV x ps), .int .i64 (hiV x ps), .bool true]) (by simp [results, Try.results38, go_sem]) rfl ⟨rfl, E3⟩
      · rw [rangeR_no (.inr (.inr (by rw [HN.out]; exact hlt)))]
        have HV := Lib.hid hv; have HP := Lib.hid hp; clear hv hp
        have hb : decide ((n : Int) ≤ ps.length) = true := by simp; omega
        go_enter Try.func38, Try.ntmps38
        go_wp2_with (fail)
        refine (NestValid_any _ _ _ ls _ HN.out HS.out).mono ?_
        rw [HV.out]
        rintro e w1 ⟨rfl, E1⟩
        go_wp2_with (fail)
        refine (pointValid_any _ ps _ (HU.out.ext E1)).mono ?_
        rw [HP.out]
        rintro e w2 ⟨rfl, rfl⟩
        go_wp2
        exact bodyPost_ret (v := .tuple #[.int .i64 0, .int .i64 0, .bool false]) (by simp [results, Try.results38, go_sem]) rfl ⟨rfl, E1⟩


end Go.Proofs.Ytabkhiakekammaa
