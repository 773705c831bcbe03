/- The texts Hd N10 C1 N9, joined. No statement is proved here. -/
import Derived.Test.YtccibfldadflkaaQV39
import Derived.Deep.RegionLaw
import Derived.Deep.RegionHeld3
import Derived.Test.YtccibfldadflkaaQV46
import Derived.Test.YtccibfldadflkaaQV45
/- A step of a drawn region taken by hand. No statement is proved here. -/
namespace Go.Proofs.Ytccibfldadflkaa
open Go.RowKit

theorem wpAnyH_takeD {P : Program} {md : Region.Mode} {ops : Array Oper} {Q : Exit → Act → World → Prop} {S : World → Prop} {i : Nat} {oi : Oper} {v : Value} {fuel : Nat} {listed : Array Bool} {a : Act} {w : World} (d : Option Nat) (hi : ops[i]? = some oi) (hd : oi.dst = d)
    (hs : Region.noSelect ops = true) (hf : Region.free md ops listed i = true) (hr : (Region.ready md ops listed).contains i = true)
    (hQ : ∀ c a w, Q (.panic c) (a.put d v) w → Q (.panic c) a w) (hy : YieldsIf P ops S oi v a) (hS : S w)
    (h : wpAnyH P md ops Q S fuel (listed.setIfInBounds i true) (a.put d v) w) : wpAnyH P md ops Q S (fuel + 1) listed a w := by
  subst hd
  exact wpAnyH_take hi hs hf hr hQ hy hS h
end Go.Proofs.Ytccibfldadflkaa

/- Contract: the model's equality of nests. -/
namespace Go.Proofs.Ytccibfldadflkaa
open Go.RowKit

end Go.Proofs.Ytccibfldadflkaa

/- Distances: the level that carries one (program and model). No statement is proved here. -/
namespace Go.Proofs.Ytccibfldadflkaa
open Go.RowKit

end Go.Proofs.Ytccibfldadflkaa

/- Contracts: equality of nests. -/
namespace Go.Proofs.Ytccibfldadflkaa
open Go.RowKit

set_option maxHeartbeats 2000000 in
theorem eqFuncA_any (p : Option Addr) (n c : Nat) (q : Option Addr) (n' d : Nat) (xs ys : List Aff) (w : World) (hn : xs.length = n) (hn' : ys.length = n') (hs : AffsAt w (.slice p n c) xs) (ht : AffsAt w (.slice q n' d) ys) :
    Calls Try.prog 127 #[.slice p n c, .slice q n' d, .func (.func 121) #[] #[]] w fun e w' => e = .returned (.bool (lEqB xs ys)) ∧ Ext w w' := by
  have hm : n ≤ 9223372036854775807 := by obtain ⟨_, _, hv, hm, _⟩ := hs; rw [← hn]; exact hm
  have hm2 : n' ≤ 9223372036854775807 := by obtain ⟨_, _, hv, hm, _⟩ := ht; rw [← hn']; exact hm
  have HS := Lib.hid hs; have HT := Lib.hid ht; have HN := Lib.hid hn; have HN' := Lib.hid hn'; clear hs ht hn hn'
  by_cases hne : n' = n
  · subst hne
    go_enter Try.func127, Try.ntmps127
    go_wp2
    go_loopw [17] (fun i wr => ∃ k : Nat, k ≤ n' ∧ i = .int .i64 k ∧ xs.take k = ys.take k ∧ Ext w wr) (fun i _ => n' - (intOf i).toNat)
    case atStart => exact ⟨0, by omega, rfl, by simp, Ext.refl w⟩
    case round =>
      obtain ⟨k, hk, rfl, htk, hE⟩ := hrel
      have HK := Lib.hid htk; clear htk
      by_cases hlt : k < n'
      · obtain ⟨x, hx⟩ := get_some (xs := xs) (k := k) (by rw [HN.out]; exact hlt)
        obtain ⟨y, hy⟩ := get_some (xs := ys) (k := k) (by rw [HN'.out]; exact hlt)
        obtain ⟨b, off, q1, m1, rfl, a0, a1, hb, hr⟩ := (HS.out.ext hE).elem hx
        obtain ⟨b', off', q2, m2, rfl, b0, b1, hb', hr'⟩ := (HT.out.ext hE).elem hy
        have HX := Lib.hid hx; have HY := Lib.hid hy; have HR := Lib.hid hr; have HR' := Lib.hid hr'; clear hx hy hr hr'
        go_wp2_with (fail)
        refine (AffineSame_any _ _ x.1 y.1 x.2 y.2 _ (HR.out.ext (((Ext.refl wr).alloc _).alloc _)) (HR'.out.ext (((Ext.refl wr).alloc _).alloc _))).mono ?_
        rintro e w3 ⟨rfl, hE3⟩
        have g3 := (((Ext.refl wr).alloc _).alloc _).trans hE3
        clear hE3 a0 a1 b0 b1
        cases hq : affEqB x.1 x.2 y.1 y.2 with
        | true =>
          have e := affEq_iff.1 hq
          go_wp2
          go_roundw
          case rel => exact ⟨k + 1, by omega, by go_num, ltake_eq_next HX.out HY.out HK.out e, hE.trans g3⟩
          case measure => simp [intOf]; omega
        | false =>
          have e := affEq_no hq
          have HE := Lib.hid e; clear e
          go_wp2
          go_ret
          exact ⟨ret_bool (lEqB_ne HX.out HY.out HE.out).symm, hE.trans g3⟩
      · go_wp2
        go_ret
        exact ⟨ret_bool (lEqB_all (by rw [HN.out]; omega) (by rw [HN'.out]; omega) HK.out).symm, hE⟩
  · have hb : ((n : Int) != n') = true := by simp; omega
    have HNE := Lib.hid hne; clear hne
    go_enter Try.func127, Try.ntmps127
    go_wp2
    go_ret
    exact ⟨ret_bool (lEqB_len (by rw [HN.out, HN'.out]; exact fun e => HNE.out e.symm)).symm, Ext.refl w⟩

end Go.Proofs.Ytccibfldadflkaa
