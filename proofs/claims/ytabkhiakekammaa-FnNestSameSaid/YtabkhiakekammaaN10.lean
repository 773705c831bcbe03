/- Contract: the model's equality of nests. -/
import Derived.Test.YtabkhiakekammaaN7
import Derived.Deep.RegionLaw
namespace Go.Proofs.Ytabkhiakekammaa
open Go.RowKit

theorem wpAnyH_takeD {P : Program} {md : Region.Mode} {ops : Array Oper} {Q : Exit → Act → World → Prop} {S : World → Prop} {i : Nat} {oi : Oper} {v : Value} {fuel : Nat} {listed : Array Bool} {a : Act} {w : World} (d : Option Nat) (hi : ops[i]? = some oi) (hd : oi.dst = d)
    (hs : Region.noSelect ops = true) (hf : Region.free md ops listed i = true) (hr : (Region.ready md ops listed).contains i = true)
    (hQ : ∀ c a w, Q (.panic c) (a.put d v) w → Q (.panic c) a w) (hy : YieldsIf P ops S oi v a) (hS : S w)
    (h : wpAnyH P md ops Q S fuel (listed.setIfInBounds i true) (a.put d v) w) : wpAnyH P md ops Q S (fuel + 1) listed a w := by
  subst hd
  exact wpAnyH_take hi hs hf hr hQ hy hS h

set_option linter.unusedSimpArgs false in
set_option maxHeartbeats 4000000 in
theorem specNestSame_any (p : Option Addr) (n c : Nat) (q : Option Addr) (n' d : Nat) (xs ys : List Lp) (w : World) (hn : xs.length = n) (hn' : ys.length = n') (hs : LoopsAt w (.slice p n c) xs) (ht : LoopsAt w (.slice q n' d) ys) :
    Calls Try.prog 33 #[.slice p n c, .slice q n' d] w fun e w' => e = .returned (.bool (lEqB xs ys)) ∧ Ext w w' := by
  have hm : n ≤ 9223372036854775807 := by obtain ⟨_, _, hv, hm, _⟩ := hs; rw [← hn]; exact hm
  have hm2 : n' ≤ 9223372036854775807 := by obtain ⟨_, _, hv, hm, _⟩ := ht; rw [← hn']; exact hm
  have HS := Lib.hid hs; have HT := Lib.hid ht; have HN := Lib.hid hn; have HN' := Lib.hid hn'; clear hs ht hn hn'
  by_cases hne : n' = n
  · subst hne
    go_enter Try.func33, Try.ntmps33
    go_wp2
    go_loopw [5] (fun i wr => ∃ k : Nat, k ≤ n' ∧ i = .int .i64 k ∧ xs.take k = ys.take k ∧ Ext w wr) (fun i _ => n' - (intOf i).toNat)
    case atStart => exact ⟨0, by omega, rfl, by simp, Ext.refl w⟩
    case round =>
      obtain ⟨k, hk, rfl, htk, hE⟩ := hrel
      have HK := Lib.hid htk; clear htk
      by_cases hlt : k < n'
      · obtain ⟨x, hx⟩ := get_some (xs := xs) (k := k) (by rw [HN.out]; exact hlt)
        obtain ⟨y, hy⟩ := get_some (xs := ys) (k := k) (by rw [HN'.out]; exact hlt)
        obtain ⟨b, off, q1, m1, q2, m2, rfl, a0, a1, hb, hr1, hr2⟩ := (HS.out.ext hE).elem hx
        obtain ⟨b', off', q3, m3, q4, m4, rfl, b0, b1, hb', hr3, hr4⟩ := (HT.out.ext hE).elem hy
        have HX := Lib.hid hx; have HY := Lib.hid hy; have HR1 := Lib.hid hr1; have HR2 := Lib.hid hr2; have HR3 := Lib.hid hr3; have HR4 := Lib.hid hr4; clear hx hy hr1 hr2 hr3 hr4
        cases h1 : lEqB x.1 y.1 with
        | false =>
          have H1 := Lib.hid h1; have HE := Lib.hid (lp_ne1 h1); clear h1
          go_wp2_with (fail)
          refine wp_region_held_drew (S := (fun W => W.cell? ⟨b, off + k * 2, none⟩ = some (.slice q1 x.1.length m1) ∧ W.cell? ⟨b, off + k * 2 + 1, none⟩ = some (.slice q2 x.2.length m2) ∧ W.cell? ⟨b', off' + k * 2, none⟩ = some (.slice q3 y.1.length m3) ∧ W.cell? ⟨b', off' + k * 2 + 1, none⟩ = some (.slice q4 y.2.length m4))) (by kernel_rfl) ⟨a0, a1, b0, b1⟩ (fun hHeld => ?_)
          refine wpAnyH_takeD (some 17) (i := 0) (v := ?v0) rfl (by kernel_rfl) (by kernel_rfl) (by kernel_rfl) (by kernel_rfl) (fun _ _ _ h => h) (Or.inl ⟨by rfl, ?hy0⟩) (by assumption) ?r0
          case hy0 => intro w hSw; (try dsimp only at hSw); go_simp; first | done | with_reducible rfl
          case' r0 => try simp only [Act.put, List.setIfInBounds_toArray, List.set_cons_zero, List.set_cons_succ]
          refine wpAnyH_takeD (some 18) (i := 1) (v := ?v1) rfl (by kernel_rfl) (by kernel_rfl) (by kernel_rfl) (by kernel_rfl) (fun _ _ _ h => h) (Or.inl ⟨by rfl, ?hy1⟩) (by assumption) ?r1
          case hy1 => intro w hSw; (try dsimp only at hSw); go_simp; first | done | with_reducible rfl
          case' r1 => try simp only [Act.put, List.setIfInBounds_toArray, List.set_cons_zero, List.set_cons_succ]
          refine wpAnyH_takeD (some 19) (i := 2) (v := ?v2) rfl (by kernel_rfl) (by kernel_rfl) (by kernel_rfl) (by kernel_rfl) (fun _ _ _ h => h) (Or.inl ⟨by rfl, ?hy2⟩) (by assumption) ?r2
          case hy2 => intro w hSw; (try dsimp only at hSw); go_simp; first | done | with_reducible rfl
          case' r2 => try simp only [Act.put, List.setIfInBounds_toArray, List.set_cons_zero, List.set_cons_succ]
          refine wpAnyH_takeD (some 20) (i := 3) (v := ?v3) rfl (by kernel_rfl) (by kernel_rfl) (by kernel_rfl) (by kernel_rfl) (fun _ _ _ h => h) (Or.inl ⟨by rfl, ?hy3⟩) (by assumption) ?r3
          case hy3 => intro w hSw; (try dsimp only at hSw); go_simp; first | done | with_reducible rfl
          case' r3 => try simp only [Act.put, List.setIfInBounds_toArray, List.set_cons_zero, List.set_cons_succ]
          refine wpAnyH_takeD (some 21) (i := 4) (v := ?v4) rfl (by kernel_rfl) (by kernel_rfl) (by kernel_rfl) (by kernel_rfl) (fun _ _ _ h => h) (Or.inl ⟨by rfl, ?hy4⟩) (by assumption) ?r4
          case hy4 => intro w hSw; (try dsimp only at hSw); go_simp; first | done | with_reducible rfl
          case' r4 => try simp only [Act.put, List.setIfInBounds_toArray, List.set_cons_zero, List.set_cons_succ]
          refine wpAnyH_takeD (some 22) (i := 5) (v := ?v5) rfl (by kernel_rfl) (by kernel_rfl) (by kernel_rfl) (by kernel_rfl) (fun _ _ _ h => h) (Or.inl ⟨by rfl, ?hy5⟩) (by assumption) ?r5
          case hy5 => intro w hSw; (try dsimp only at hSw); go_simp; first | done | with_reducible rfl
          case' r5 => try simp only [Act.put, List.setIfInBounds_toArray, List.set_cons_zero, List.set_cons_succ]
          refine wpAnyH_takeD (some 23) (i := 6) (v := ?v6) rfl (by kernel_rfl) (by kernel_rfl) (by kernel_rfl) (by kernel_rfl) (fun _ _ _ h => h) (Or.inl ⟨by rfl, ?hy6⟩) (by assumption) ?r6
          case hy6 => intro w hSw; (try dsimp only at hSw); go_simp; first | done | with_reducible rfl
          case' r6 => try simp only [Act.put, List.setIfInBounds_toArray, List.set_cons_zero, List.set_cons_succ]
          refine wpAnyH_takeD (some 24) (i := 7) (v := ?v7) rfl (by kernel_rfl) (by kernel_rfl) (by kernel_rfl) (by kernel_rfl) (fun _ _ _ h => h) (Or.inl ⟨by rfl, ?hy7⟩) (by assumption) ?r7
          case hy7 => intro w hSw; (try dsimp only at hSw); go_simp; first | done | with_reducible rfl
          case' r7 => try simp only [Act.put, List.setIfInBounds_toArray, List.set_cons_zero, List.set_cons_succ]
          refine wpAnyH_takeD (some 25) (i := 8) (v := ?v8) rfl (by kernel_rfl) (by kernel_rfl) (by kernel_rfl) (by kernel_rfl) (fun _ _ _ h => h) (Or.inl ⟨by rfl, ?hy8⟩) (by assumption) ?r8
          case hy8 => intro w hSw; (try dsimp only at hSw); go_simp; first | done | with_reducible rfl
          case' r8 => try simp only [Act.put, List.setIfInBounds_toArray, List.set_cons_zero, List.set_cons_succ]
          refine wpAnyH_takeD (some 26) (i := 9) (v := ?v9) rfl (by kernel_rfl) (by kernel_rfl) (by kernel_rfl) (by kernel_rfl) (fun _ _ _ h => h) (Or.inl ⟨by rfl, ?hy9⟩) (by assumption) ?r9
          case hy9 => intro w hSw; (try dsimp only at hSw); go_simp; first | done | with_reducible rfl
          case' r9 => try simp only [Act.put, List.setIfInBounds_toArray, List.set_cons_zero, List.set_cons_succ]
          refine wpAnyH_ready (rs := [10]) (by kernel_rfl) (by simp) ?_
          refine AllReadyH.cons rfl (fun K hK => ?_) AllReadyH.nil
          go_simp
          refine (l2SideSame_any q1 _ m1 q3 _ m3 x.1 y.1 _ rfl rfl (HR1.out.ext (Ext.refl wr).drew) (HR3.out.ext (Ext.refl wr).drew)).mono ?_
          rw [H1.out]
          rintro e w3 ⟨rfl, hE3⟩
          have g3 := (Ext.refl wr).drew.trans hE3
          refine hK.out _ _ ⟨g3.keep a0, g3.keep a1, g3.keep b0, g3.keep b1⟩ (fun hHeld3 => ?_)
          clear hK K
          try simp only [Act.put, List.setIfInBounds_toArray, List.set_cons_zero, List.set_cons_succ]
          refine wpAnyH_takeD (some 28) (i := 11) (v := ?v11) rfl (by kernel_rfl) (by kernel_rfl) (by kernel_rfl) (by kernel_rfl) (fun _ _ _ h => h) (Or.inl ⟨by rfl, ?hy11⟩) (by assumption) ?r11
          case hy11 => intro w hSw; (try dsimp only at hSw); go_simp; first | done | with_reducible rfl
          case' r11 => try simp only [Act.put, List.setIfInBounds_toArray, List.set_cons_zero, List.set_cons_succ]
          refine wpAnyH_takeD (some 29) (i := 12) (v := ?v12) rfl (by kernel_rfl) (by kernel_rfl) (by kernel_rfl) (by kernel_rfl) (fun _ _ _ h => h) (Or.inl ⟨by rfl, ?hy12⟩) (by assumption) ?r12
          case hy12 => intro w hSw; (try dsimp only at hSw); go_simp; first | done | with_reducible rfl
          case' r12 => try simp only [Act.put, List.setIfInBounds_toArray, List.set_cons_zero, List.set_cons_succ]
          refine wpAnyH_takeD (some 30) (i := 13) (v := undef) rfl (by kernel_rfl) (by kernel_rfl) (by kernel_rfl) (by kernel_rfl) (fun _ _ _ h => h) (Or.inr ⟨by kernel_rfl, rfl⟩) (by assumption) ?_
          try simp only [Act.put, List.setIfInBounds_toArray, List.set_cons_zero, List.set_cons_succ]
          refine wpAnyH_takeD (some 31) (i := 14) (v := undef) rfl (by kernel_rfl) (by kernel_rfl) (by kernel_rfl) (by kernel_rfl) (fun _ _ _ h => h) (Or.inr ⟨by kernel_rfl, rfl⟩) (by assumption) ?_
          try simp only [Act.put, List.setIfInBounds_toArray, List.set_cons_zero, List.set_cons_succ]
          refine wpAnyH_takeD (some 32) (i := 15) (v := undef) rfl (by kernel_rfl) (by kernel_rfl) (by kernel_rfl) (by kernel_rfl) (fun _ _ _ h => h) (Or.inr ⟨by kernel_rfl, rfl⟩) (by assumption) ?_
          try simp only [Act.put, List.setIfInBounds_toArray, List.set_cons_zero, List.set_cons_succ]
          refine wpAnyH_takeD (some 33) (i := 16) (v := undef) rfl (by kernel_rfl) (by kernel_rfl) (by kernel_rfl) (by kernel_rfl) (fun _ _ _ h => h) (Or.inr ⟨by kernel_rfl, rfl⟩) (by assumption) ?_
          try simp only [Act.put, List.setIfInBounds_toArray, List.set_cons_zero, List.set_cons_succ]
          refine wpAnyH_takeD (some 34) (i := 17) (v := undef) rfl (by kernel_rfl) (by kernel_rfl) (by kernel_rfl) (by kernel_rfl) (fun _ _ _ h => h) (Or.inr ⟨by kernel_rfl, rfl⟩) (by assumption) ?_
          try simp only [Act.put, List.setIfInBounds_toArray, List.set_cons_zero, List.set_cons_succ]
          refine wpAnyH_takeD (some 35) (i := 18) (v := undef) rfl (by kernel_rfl) (by kernel_rfl) (by kernel_rfl) (by kernel_rfl) (fun _ _ _ h => h) (Or.inr ⟨by kernel_rfl, rfl⟩) (by assumption) ?_
          try simp only [Act.put, List.setIfInBounds_toArray, List.set_cons_zero, List.set_cons_succ]
          refine wpAnyH_takeD (some 36) (i := 19) (v := undef) rfl (by kernel_rfl) (by kernel_rfl) (by kernel_rfl) (by kernel_rfl) (fun _ _ _ h => h) (Or.inr ⟨by kernel_rfl, rfl⟩) (by assumption) ?_
          try simp only [Act.put, List.setIfInBounds_toArray, List.set_cons_zero, List.set_cons_succ]
          refine wpAnyH_takeD (some 37) (i := 20) (v := undef) rfl (by kernel_rfl) (by kernel_rfl) (by kernel_rfl) (by kernel_rfl) (fun _ _ _ h => h) (Or.inr ⟨by kernel_rfl, rfl⟩) (by assumption) ?_
          try simp only [Act.put, List.setIfInBounds_toArray, List.set_cons_zero, List.set_cons_succ]
          refine wpAnyH_takeD (some 38) (i := 21) (v := undef) rfl (by kernel_rfl) (by kernel_rfl) (by kernel_rfl) (by kernel_rfl) (fun _ _ _ h => h) (Or.inr ⟨by kernel_rfl, rfl⟩) (by assumption) ?_
          try simp only [Act.put, List.setIfInBounds_toArray, List.set_cons_zero, List.set_cons_succ]
          refine wpAnyH_takeD (some 39) (i := 22) (v := undef) rfl (by kernel_rfl) (by kernel_rfl) (by kernel_rfl) (by kernel_rfl) (fun _ _ _ h => h) (Or.inr ⟨by kernel_rfl, rfl⟩) (by assumption) ?_
          try simp only [Act.put, List.setIfInBounds_toArray, List.set_cons_zero, List.set_cons_succ]
          refine wpAnyH_takeD (some 40) (i := 23) (v := undef) rfl (by kernel_rfl) (by kernel_rfl) (by kernel_rfl) (by kernel_rfl) (fun _ _ _ h => h) (Or.inr ⟨by kernel_rfl, rfl⟩) (by assumption) ?_
          try simp only [Act.put, List.setIfInBounds_toArray, List.set_cons_zero, List.set_cons_succ]
          refine wpAnyH_takeD (some 41) (i := 24) (v := undef) rfl (by kernel_rfl) (by kernel_rfl) (by kernel_rfl) (by kernel_rfl) (fun _ _ _ h => h) (Or.inr ⟨by kernel_rfl, rfl⟩) (by assumption) ?_
          try simp only [Act.put, List.setIfInBounds_toArray, List.set_cons_zero, List.set_cons_succ]
          refine wpAnyH_takeD (some 42) (i := 25) (v := ?v25) rfl (by kernel_rfl) (by kernel_rfl) (by kernel_rfl) (by kernel_rfl) (fun _ _ _ h => h) (Or.inl ⟨by rfl, ?hy25⟩) (by assumption) ?r25
          case hy25 => intro w hSw; (try dsimp only at hSw); go_simp; first | done | with_reducible rfl
          case' r25 => try simp only [Act.put, List.setIfInBounds_toArray, List.set_cons_zero, List.set_cons_succ]
          refine wpAnyH_done (by kernel_rfl) ?_ _
          go_wp2
          go_ret
          exact ⟨ret_bool (lEqB_ne HX.out HY.out HE.out).symm, hE.trans g3⟩
        | true =>
          have H1 := Lib.hid h1
          cases h2 : lEqB x.2 y.2 with
          | false =>
            have H2 := Lib.hid h2; have HE := Lib.hid (lp_ne2 h2); clear h1 h2
            go_wp2_with (fail)
            go_region_held3 (fun W => W.cell? ⟨b, off + k * 2, none⟩ = some (.slice q1 x.1.length m1) ∧ W.cell? ⟨b, off + k * 2 + 1, none⟩ = some (.slice q2 x.2.length m2) ∧ W.cell? ⟨b', off' + k * 2, none⟩ = some (.slice q3 y.1.length m3) ∧ W.cell? ⟨b', off' + k * 2 + 1, none⟩ = some (.slice q4 y.2.length m4))
              (first | exact ⟨a0, a1, b0, b1⟩ | exact ⟨g3.keep a0, g3.keep a1, g3.keep b0, g3.keep b1⟩ | exact ⟨g5.keep a0, g5.keep a1, g5.keep b0, g5.keep b1⟩ | fail)
              (first | (go_at_call 87; (with_reducible refine (l2SideSame_any q1 _ m1 q3 _ m3 x.1 y.1 _ rfl rfl (HR1.out.ext (Ext.refl wr).drew) (HR3.out.ext (Ext.refl wr).drew)).mono ?_); rw [H1.out]; rintro e w3 ⟨rfl, hE3⟩; have g3 := (Ext.refl wr).drew.trans hE3) | (go_at_call 87; (with_reducible refine (l2SideSame_any q2 _ m2 q4 _ m4 x.2 y.2 _ rfl rfl (HR2.out.ext g3) (HR4.out.ext g3)).mono ?_); rw [H2.out]; rintro e w5 ⟨rfl, hE5⟩; have g5 := g3.trans hE5) | fail)
            go_wp2
            go_ret
            exact ⟨ret_bool (lEqB_ne HX.out HY.out HE.out).symm, hE.trans g5⟩
          | true =>
            have HEQ := Lib.hid (lp_eq h1 h2)
            have H2 := Lib.hid h2; clear h1 h2
            go_wp2_with (fail)
            go_region_held3 (fun W => W.cell? ⟨b, off + k * 2, none⟩ = some (.slice q1 x.1.length m1) ∧ W.cell? ⟨b, off + k * 2 + 1, none⟩ = some (.slice q2 x.2.length m2) ∧ W.cell? ⟨b', off' + k * 2, none⟩ = some (.slice q3 y.1.length m3) ∧ W.cell? ⟨b', off' + k * 2 + 1, none⟩ = some (.slice q4 y.2.length m4))
              (first | exact ⟨a0, a1, b0, b1⟩ | exact ⟨g3.keep a0, g3.keep a1, g3.keep b0, g3.keep b1⟩ | exact ⟨g5.keep a0, g5.keep a1, g5.keep b0, g5.keep b1⟩ | fail)
              (first | (go_at_call 87; (with_reducible refine (l2SideSame_any q1 _ m1 q3 _ m3 x.1 y.1 _ rfl rfl (HR1.out.ext (Ext.refl wr).drew) (HR3.out.ext (Ext.refl wr).drew)).mono ?_); rw [H1.out]; rintro e w3 ⟨rfl, hE3⟩; have g3 := (Ext.refl wr).drew.trans hE3) | (go_at_call 87; (with_reducible refine (l2SideSame_any q2 _ m2 q4 _ m4 x.2 y.2 _ rfl rfl (HR2.out.ext g3) (HR4.out.ext g3)).mono ?_); rw [H2.out]; rintro e w5 ⟨rfl, hE5⟩; have g5 := g3.trans hE5) | fail)
            go_wp2
            go_roundw
            case rel => exact ⟨k + 1, by omega, by go_num, ltake_eq_next HX.out HY.out HK.out HEQ.out, hE.trans g5⟩
            case measure => simp [intOf]; omega
      · go_wp2
        go_ret
        exact ⟨ret_bool (lEqB_all (by rw [HN.out]; omega) (by rw [HN'.out]; omega) HK.out).symm, hE⟩
  · have hb : ((n : Int) != n') = true := by simp; omega
    have HNE := Lib.hid hne; clear hne
    go_enter Try.func33, Try.ntmps33
    go_wp2
    go_ret
    exact ⟨ret_bool (lEqB_len (by rw [HN.out, HN'.out]; exact fun e => HNE.out e.symm)).symm, Ext.refl w⟩
end Go.Proofs.Ytabkhiakekammaa
