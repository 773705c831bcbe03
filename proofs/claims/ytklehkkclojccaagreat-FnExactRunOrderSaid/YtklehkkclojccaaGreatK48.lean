/- The texts E7 I7, joined. No statement is proved here. -/
import Derived.Test.YtklehkkclojccaaGreatK45
/- The program's RunProgram. No statement is proved here. -/
namespace Go.Proofs.YtklehkkclojccaaGreat
open Go.RowKit Go.Maps
def runM (ars : List Arr) (ys : List InsM) (xs : List Int) : List Int := ys.foldl (fun m y => exM ars m y) xs
theorem runM_len (ars : List Arr) : ∀ (ys : List InsM) (xs : List Int), (runM ars ys xs).length = xs.length
 | [], _ => rfl
 | y :: ys, xs => by
  show (runM ars ys (exM ars xs y)).length = _
  rw [runM_len ars ys, exM_len]
theorem runM_snoc (ars : List Arr) (ys : List InsM) (y : InsM) (xs : List Int) : runM ars (ys ++ [y]) xs = exM ars (runM ars ys xs) y := by simp [runM, List.foldl_append]
theorem runM_mem {ars : List Arr} {ps : List Pt} : ∀ {ys : List InsM} {xs : List Int}, (∀ y ∈ ys, y ∈ insM ps) → memB ars ps xs = true → memB ars ps (runM ars ys xs) = true
 | [], _, _, h => h
 | y :: ys, xs, hy, h => runM_mem (ys := ys) (xs := exM ars xs y) (fun z hz => hy z (by simp [hz])) (exM_mem h (hy y (by simp)))
theorem MachR.evs {L : Nat} {W : World} {a b c s f : Value} {q2 : Option Addr} {M c2 : Nat} {ars : List Arr} {ps : List Pt} {xs : List Int} (h : MachR L W (.agg #[a, b, c, .slice q2 M c2, s, f]) ars ps xs) :
  (insM ps).length = M ∧ ∃ B, EvsOwn B W (.slice q2 M c2) (evsOf ars ps) := by
 obtain ⟨Z, B, M0, Lo, Bm, D, q1, c1, q2, c2, pm, cm, pf, cf, hv, hom, hmi, hev, hZ, hLM, hZM, hmem, hml, hfs⟩ := h
 cases hv
 exact ⟨by simp [evsOf], B, hev.ext hZ⟩
end Go.Proofs.YtklehkkclojccaaGreat
/- The model's RunProgram. No statement is proved here. -/
namespace Go.Proofs.YtklehkkclojccaaGreat
open Go.RowKit Go.Maps
theorem InssOwn.lvB {D : Nat → Prop} {B : Nat} {w w' : World} {v : Value} {l : List In3} (h : InssOwn B w v l) (hv : Lv D w w') (hD : ∀ b, D b → b < B) : InssOwn B w' v l := by
 obtain ⟨vs, ho, he⟩ := h
 refine ⟨vs, row_lv ho hv (fun b hb hd => by have h3 := (World.ownsRow.lt ho b hb).1; have h4 := hD b hd; omega), fun i x hi => ?_⟩
 obtain ⟨u0, u1, u2, a0, a1, a2, b0, b1, b2⟩ := he i x hi
 exact ⟨u0, u1, u2, a0, a1, a2, b0, b1, IntsOwn.lvB b2 hv hD⟩
end Go.Proofs.YtklehkkclojccaaGreat
