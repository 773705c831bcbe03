/- Contracts: the range of a loop at a point. -/
import Derived.Test.YtabkhiakekammaaN11
namespace Go.Proofs.Ytabkhiakekammaa
open Go.RowKit

/-- A side that can be evaluated. -/
def sideOk (zs : List Aff) : Prop := 0 < zs.length ∧ zs.length ≤ 2 ∧ ∀ a ∈ zs, affValidB a.1 a.2 = true
theorem sideOk_of {zs : List Aff} {d : Int} (h : sideB zs d = true) : sideOk zs := by
  simp only [sideB, Bool.and_eq_true, decide_eq_true_eq, List.all_eq_true, boundB] at h
  exact ⟨h.1.1, h.1.2, fun a ha => (h.2 a ha).1⟩
def loV (x : Lp) (ps : List Int) : Int := maxL (x.1.map (evalA ps))
def hiV (x : Lp) (ps : List Int) : Int := minL (x.2.map (evalA ps))

set_option maxHeartbeats 2000000 in
theorem span_any (s t : Value) (x : Lp) (u : Value) (ps : List Int) (w : World) (hs : AffsAt w s x.1) (ht : AffsAt w t x.2) (hu : IntsAt w u ps) (h1 : sideOk x.1) (h2 : sideOk x.2) (hp : ptB ps = true) :
    Calls Try.prog 92 #[.agg #[s, t], u] w fun e w' => e = .returned (.tuple #[.int .i64 (loV x ps), .int .i64 (hiV x ps)]) ∧ Ext w w' := by
  obtain ⟨p, c, rfl, hm⟩ := hs.form
  obtain ⟨q, d, rfl, hm2⟩ := ht.form
  have HS := Lib.hid hs; have HT := Lib.hid ht; have HU := Lib.hid hu; have H1 := Lib.hid h1; have H2 := Lib.hid h2; have HP := Lib.hid hp; clear hs ht hu h1 h2 hp
  obtain ⟨pu, cu, rfl, hmu, -⟩ := HU.out
  have P1 : Hid (0 < x.1.length) := Lib.hid H1.out.1
  have P2 : Hid (x.1.length ≤ 2) := Lib.hid H1.out.2.1
  have P3 : Hid (∀ a ∈ x.1, affValidB a.1 a.2 = true) := Lib.hid H1.out.2.2
  have Q1 : Hid (0 < x.2.length) := Lib.hid H2.out.1
  have Q2 : Hid (x.2.length ≤ 2) := Lib.hid H2.out.2.1
  have Q3 : Hid (∀ a ∈ x.2, affValidB a.1 a.2 = true) := Lib.hid H2.out.2.2
  clear H1 H2
  have HL1 : Hid ((x.1.map (evalA ps)).length = x.1.length) := Lib.hid (List.length_map _)
  have HL2 : Hid ((x.2.map (evalA ps)).length = x.2.length) := Lib.hid (List.length_map _)
  have a0 := new0 w (.slice p x.1.length c) [.slice q x.2.length d] 96
  have a1 := new1 w (.slice p x.1.length c) (.slice q x.2.length d) [] 96
  have E0 : Ext w (w.alloc (.cells #[.slice p x.1.length c, .slice q x.2.length d] 96)) := (Ext.refl w).alloc _
  have A0 := Lib.hid a0; have A1 := Lib.hid a1; have HE0 := Lib.hid E0; clear a0 a1 E0
  go_enter Try.func92, Try.ntmps92
  go_wp2_with (fail)
  have a0 := A0.out; have a1 := A1.out; have E0 := HE0.out
  clear A0 A1 HE0
  generalize w.alloc (.cells #[.slice p x.1.length c, .slice q x.2.length d] 96) = W0 at *
  generalize w.heap.size = g0 at *
  go_region_held3 (fun W => W.cell? ⟨g0, 0, none⟩ = some (.slice p x.1.length c) ∧ W.cell? ⟨g0, 1, none⟩ = some (.slice q x.2.length d))
    (first
      | exact ⟨a0, a1⟩
      | exact ⟨g1.keep a0, g1.keep a1⟩
      | exact ⟨g3.keep a0, g3.keep a1⟩
      | fail)
    (first
      | (go_at_call 120; (with_reducible refine (valuesAt_any p _ c x.1 _ ps _ rfl (HS.out.ext E0.drew) (HU.out.ext E0.drew) P3.out HP.out P2.out).mono ?_); rintro e w1 ⟨q1, d1, rfl, hv1, hE1⟩; have g1 : Ext W0 w1 := (Ext.refl W0).drew.trans hE1)
      | (go_at_call 119; (with_reducible refine (slicesMax_any (.slice q1 x.1.length d1) (x.1.map (evalA ps)) w1 hv1.at (by rw [HL1.out]; exact P1.out)).mono ?_); rintro e w2 ⟨rfl, rfl⟩)
      | (go_at_call 120; (with_reducible refine (valuesAt_any q _ d x.2 _ ps _ rfl (HT.out.ext (E0.trans g1)) (HU.out.ext (E0.trans g1)) Q3.out HP.out Q2.out).mono ?_); rintro e w3 ⟨q3, d3, rfl, hv3, hE3⟩; have g3 : Ext W0 w3 := g1.trans hE3)
      | (go_at_call 121; (with_reducible refine (slicesMin_any (.slice q3 x.2.length d3) (x.2.map (evalA ps)) w3 hv3.at (by rw [HL2.out]; exact Q1.out)).mono ?_); rintro e w4 ⟨rfl, rfl⟩)
      | fail)
  have g5 := E0.trans g3
  go_wp2
  exact bodyPost_ret (v := .tuple #[.int .i64 (loV x ps), .int .i64 (hiV x ps)]) (by simp [results, Try.results92, go_sem, loV, hiV]) rfl ⟨rfl, g5⟩
end Go.Proofs.Ytabkhiakekammaa
