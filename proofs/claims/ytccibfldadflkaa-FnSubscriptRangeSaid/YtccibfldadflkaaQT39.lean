/- The texts A11 A9, joined. No statement is proved here. -/
import Derived.Test.YtccibfldadflkaaQT03
import Derived.Test.YtccibfldadflkaaQT06
/- Contracts: marks in an affine expression; what stays beside them. -/
namespace Go.Proofs.Ytccibfldadflkaa
open Go.RowKit

theorem IntsOwn.row {B n : Nat} {w : World} {v : Value} {xs : List Int} (h : IntsOwn B w v xs) (hn : xs.length = n) : w.ownsRow B 3 1 v n (xs.map (Value.int .i64)) := by
  unfold IntsOwn at h; rwa [hn] at h
theorem own_block_ge {B : Nat} {w : World} {v : Value} {xs : List Int} (h : IntsOwn B w v xs) {b : Nat} (hb : b < B) : some b ≠ v.ownBlock := by
  intro e
  have := (h.lt b e.symm).1
  omega
/-- A row of the call's own stays where another one, made later, is written. -/
theorem IntsOwn.beside {B B' : Nat} {w w' : World} {v u : Value} {xs ys : List Int} (h : IntsOwn B w v xs) (hu : IntsOwn B' w u ys) (hv : ∀ b, v.ownBlock = some b → b < B') (hg : w.grownBy w' u.ownBlock) : IntsOwn B w' v xs := by
  refine World.ownsRow.kept h hg ?_
  cases hb : v.ownBlock with
  | none => exact .inl rfl
  | some b => exact .inr (own_block_ge hu (hv b hb))
end Go.Proofs.Ytccibfldadflkaa

/- Contracts: EvalAffine and its model. -/
namespace Go.Proofs.Ytccibfldadflkaa
open Go.RowKit

theorem evalR_yes {xs ps : List Int} {k : Int} (h : affValidB xs k = true) (hp : ptB ps = true) : evalR xs k ps = evalK xs ps k ps.length := by unfold evalR; rw [if_pos ⟨h, hp⟩]
theorem evalR_nov {xs ps : List Int} {k : Int} (h : affValidB xs k = false) : evalR xs k ps = 0 := by unfold evalR; rw [if_neg]; rintro ⟨h1, _⟩; rw [h] at h1; cases h1
theorem evalR_nop {xs ps : List Int} {k : Int} (h : ptB ps = false) : evalR xs k ps = 0 := by unfold evalR; rw [if_neg]; rintro ⟨_, h1⟩; rw [h] at h1; cases h1

set_option maxHeartbeats 1000000 in
theorem EvalAffine_any (s t : Value) (xs ps : List Int) (k : Int) (w : World) (hs : IntsAt w s xs) (ht : IntsAt w t ps) :
    Calls Try.prog 21 #[.agg #[s, .int .i64 k], t] w fun e w' => e = .returned (.int .i64 (evalR xs k ps)) ∧ Ext w w' := by
  have HS := Lib.hid hs; have HT := Lib.hid ht; clear hs ht
  obtain ⟨p, cp, rfl, -, -⟩ := HS.out
  obtain ⟨q, cq, rfl, -, -⟩ := HT.out
  cases hv : affValidB xs k with
  | false =>
    rw [evalR_nov hv]
    have HV := Lib.hid hv; clear hv
    go_enter Try.func21, Try.ntmps21
    go_wp2_with (fail)
    refine (linearOf_no _ xs k _ (HS.out.ext ((Ext.refl w).alloc _)) HV.out).mono ?_
    rintro e W1 ⟨rfl, hE⟩
    have E1 : Hid (Ext w W1) := ((Ext.refl w).alloc _).trans hE
    clear hE
    go_wp2
    go_ret
    exact ⟨rfl, E1.out.alloc _⟩
  | true =>
    obtain ⟨a, b, c, d, rfl, _⟩ := valid_four hv
    cases hp : ptB ps with
    | false =>
      rw [evalR_nop hp]
      have HV := Lib.hid hv; clear hv
      have HP := Lib.hid hp; clear hp
      go_enter Try.func21, Try.ntmps21
      go_wp2_with (fail)
      refine (linearOf_yes _ a b c d k _ (HS.out.ext ((Ext.refl w).alloc _)) HV.out).mono ?_
      rintro e W1 ⟨rfl, hE⟩
      have E1 : Hid (Ext w W1) := ((Ext.refl w).alloc _).trans hE
      clear hE
      go_wp2_with (fail)
      refine (pointValid_any _ ps _ (HT.out.ext (E1.out.alloc _))).mono ?_
      rw [HP.out]
      rintro e W2 ⟨rfl, rfl⟩
      go_wp2
      go_ret
      exact ⟨rfl, E1.out.alloc _⟩
    | true =>
      rw [evalR_yes hv hp]
      have HV := Lib.hid hv; clear hv
      have HP := Lib.hid hp; clear hp
      go_enter Try.func21, Try.ntmps21
      go_wp2_with (fail)
      refine (linearOf_yes _ a b c d k _ (HS.out.ext ((Ext.refl w).alloc _)) HV.out).mono ?_
      rintro e W1 ⟨rfl, hE⟩
      have E1 : Hid (Ext w W1) := ((Ext.refl w).alloc _).trans hE
      clear hE
      go_wp2_with (fail)
      refine (pointValid_any _ ps _ (HT.out.ext (E1.out.alloc _))).mono ?_
      rw [HP.out]
      rintro e W2 ⟨rfl, rfl⟩
      go_wp2_with (fail)
      refine (at_any a b c d k _ ps _ (HT.out.ext (E1.out.alloc _)) HV.out HP.out).mono ?_
      rintro e W3 ⟨rfl, hE⟩
      have E3 : Hid (Ext w W3) := (E1.out.alloc _).trans hE
      clear hE
      go_wp2
      go_ret
      exact ⟨rfl, E3.out⟩

end Go.Proofs.Ytccibfldadflkaa
