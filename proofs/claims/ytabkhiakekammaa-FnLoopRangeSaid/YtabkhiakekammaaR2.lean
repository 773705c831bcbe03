/- The model's count of iterations. -/
import Derived.Test.YtabkhiakekammaaR1
import Derived.Test.YtabkhiakekammaaD8
import Derived.Maps.AppendAt
namespace Go.Proofs.Ytabkhiakekammaa
open Go.RowKit

/-- A prefix of a point, as the model hands it on: nil, or a row. -/
def PreAt (w : World) (pv : Value) (ps : List Int) : Prop := (pv = .slice none 0 0 ∧ ps = []) ∨ ∃ b c', pv = .slice (some ⟨b, 0, none⟩) ps.length c' ∧ IntsAt w pv ps
theorem PreAt.at {w : World} {pv : Value} {ps : List Int} (h : PreAt w pv ps) : IntsAt w pv ps := by
  rcases h with ⟨rfl, rfl⟩ | ⟨b, c', rfl, h⟩
  · exact ⟨none, 0, rfl, by simp, fun i x h => by simp at h⟩
  · exact h
theorem PreAt.ext {w w' : World} {pv : Value} {ps : List Int} (h : PreAt w pv ps) (hE : Ext w w') : PreAt w' pv ps := by
  rcases h with h | ⟨b, c', e, h⟩
  · exact .inl h
  · exact .inr ⟨b, c', e, h.ext hE⟩
theorem lpAt_of {ls : List Lp} {ps : List Int} {x : Lp} (h : ls[ps.length]? = some x) : lpAt ls ps = x := by unfold lpAt; rw [List.getD_eq_getElem?_getD, h]; rfl

set_option linter.unusedVariables false in
set_option maxRecDepth 100000 in
set_option maxHeartbeats 4000000 in
theorem l2WorkRow (pn : Option Addr) (n c : Nat) (ls : List Lp) (hnb : nestB ls = true) (hn : ls.length = n) : ∀ (d : Nat) (bp co : Nat) (ps : List Int) (most : Int) (w : World), ps.length + d = n → PB ps → IntsAt w (.slice (some ⟨bp, 0, none⟩) ps.length co) ps → LoopsAt w (.slice pn n c) ls → 0 ≤ most → most ≤ 1200 →
    Calls Try.prog 100 #[.slice pn n c, .slice (some ⟨bp, 0, none⟩) ps.length co, .int .i64 most] w fun e w' => e = .returned (.int .i64 (work ls d ps most)) ∧ Ext w w'
  | 0, bp, co, ps, most, w, hd, hpb, hp, hs, h0, h1 => by
    have hb : ((ps.length : Int) == (n : Int)) = true := by simp; omega
    clear hd
    go_enter Try.func100, Try.ntmps100
    go_wp2
    go_ret
    exact ⟨rfl, Ext.refl w⟩
  | d + 1, bp, co, ps, most, w, hd, hpb, hp, hs, h0, h1 => by
    obtain ⟨i0, hi0, hz0, hz1, hz2⟩ := info_parts infoInt
    have hn4 : n ≤ 4 := by have := (nestB_iff.1 hnb).1; rw [hn] at this; exact this
    obtain ⟨x, hx⟩ := get_some (xs := ls) (k := ps.length) (by omega)
    obtain ⟨b, off, q1, n1, q2, n2, rfl, c0, c1, hbb, hr1, hr2⟩ := hs.elem hx
    have hsd := nest_side hnb hx
    have hpt := hpb.pt (by omega)
    have hlo := lo_bd hsd.1 hpb (by omega)
    have hhi := hi_bd hsd.2 hpb (by omega)
    have hbn := bnd_le ps.length
    have HS := Lib.hid hs; have HX := Lib.hid hx; have HR1 := Lib.hid hr1; have HR2 := Lib.hid hr2; have S1 := Lib.hid hsd.1; have S2 := Lib.hid hsd.2; have HPT := Lib.hid hpt; have HPB := Lib.hid hpb
    have HIH := Lib.hid (l2WorkRow (some ⟨b, off, none⟩) n c ls hnb hn d)
    have HTOT : Hid (work ls (d + 1) ps most = workLoop (fun v m => work ls d (ps ++ [v]) m) most (hiV x ps - loV x ps).toNat (loV x ps) 1) := Lib.hid (by rw [← lpAt_of HX.out]; rfl)
    clear hs hx hr1 hr2 hsd hpt hpb hn hnb
    obtain ⟨k, hk⟩ : ∃ k, ps.length = k := ⟨_, rfl⟩
    rw [hk] at hp hd hlo hhi hbn c0 c1 ⊢
    have HP := Lib.hid hp; clear hp
    have HK := Lib.hid hk; clear hk
    have hb : ((k : Int) == (n : Int)) = false := by simp; omega
    have hk0 : (0 : Int) ≤ (k : Int) := by omega
    have hkn : (k : Int) < (n : Int) := by omega
    rw [HTOT.out]
    obtain ⟨TOT, hT0⟩ : ∃ TOT, workLoop (fun v m => work ls d (ps ++ [v]) m) most (hiV x ps - loV x ps).toNat (loV x ps) 1 = TOT := ⟨_, rfl⟩
    rw [hT0]
    have HT0 := Lib.hid hT0; clear hT0
    go_enter Try.func100, Try.ntmps100
    go_wp2_with (fail)
    refine (l2Range_any _ _ x (.slice (some ⟨bp, 0, none⟩) k co) ps _ HR1.out HR2.out HP.out S1.out S2.out HPT.out).mono ?_
    rintro e w1 ⟨rfl, hE⟩
    generalize loV x ps = lo at *
    generalize hiV x ps = hi at *
    have HE1 := Lib.hid hE
    clear hE c0 c1 HTOT
    go_wp2_with (fail)
    go_loopw [7, 10] (fun nn vv wr => ∃ (N V : Int), nn = .int .i64 N ∧ vv = .int .i64 V ∧ lo ≤ V ∧ (V ≤ hi ∨ V = lo) ∧ 1 ≤ N ∧ N ≤ most + ((d : Int) + 1) ∧ workLoop (fun v m => work ls d (ps ++ [v]) m) most (hi - V).toNat V N = TOT ∧ Ext w1 wr) (fun _ vv _ => (hi - intOf vv).toNat)
    case atStart => exact ⟨1, lo, rfl, rfl, by omega, .inr rfl, by omega, by omega, HT0.out, Ext.refl _⟩
    case round =>
      obtain ⟨N, V, rfl, rfl, hV1, hV2, hN1, hN2, hT, hE⟩ := hrel
      have HT := Lib.hid hT; have HE := Lib.hid hE; clear hT hE HT0
      have hV2' := Lib.hid hV2; clear hV2
      by_cases hlt : V < hi
      · have hb1 : decide (V < hi) = true := by simp [hlt]
        by_cases hle : N ≤ most
        · have hb2 : decide (N ≤ most) = true := by simp [hle]
          have HT2 : Hid (workLoop (fun v m => work ls d (ps ++ [v]) m) most (hi - (V + 1)).toNat (V + 1) (N + work ls d (ps ++ [V]) (most - N)) = TOT) := Lib.hid (by
            rw [← HT.out, show (hi - V).toNat = (hi - (V + 1)).toNat + 1 by omega]
            simp only [workLoop]
            rw [if_pos hle])
          have hr := work_bd ls d (ps ++ [V]) (most - N) (by omega)
          obtain ⟨r, hr0⟩ : ∃ r, work ls d (ps ++ [V]) (most - N) = r := ⟨_, rfl⟩
          rw [hr0] at hr HT2
          have HR0 := Lib.hid hr0; clear hr0
          have HQ0 : Hid ((wr.alloc (.cells #[] 3)).ownsRow wr.heap.size 3 1 (.slice (some ⟨wr.heap.size, 0, none⟩) 0 0) 0 []) := Lib.hid (World.ownsRow_made wr #[] 0 (Nat.le_refl _) (Nat.zero_le _) rfl)
          have hpb2 : PB (ps ++ [V]) := HPB.out.push (by rw [HK.out]; omega) (by rw [HK.out]; omega)
          have hat := HP.out.ext (HE1.out.trans HE.out)
          have hcell : ∀ j u, (ps.map (Value.int .i64))[j]? = some u → (wr.alloc (.cells #[] 3)).cell? ((⟨bp, 0, none⟩ : Addr).add j) = some u := by
            intro j u hu
            simp only [List.getElem?_map, Option.map_eq_some_iff] at hu
            obtain ⟨y, hy, rfl⟩ := hu
            obtain ⟨p', c'', e', hm', hc'⟩ := hat
            cases e'
            obtain ⟨b', o', e2, hcl⟩ := hc' j y hy
            cases e2
            rw [Addr.add_lit]
            exact ((Ext.refl wr).alloc _).keep hcl
          have HCell := Lib.hid hcell; clear hcell
          go_wp2_with (at_builtin; refine wpList_append_own_at _ rfl (.tmp 40) (.tmp 41) 23 rfl wr.heap.size 3 i0 (.int .i64 0) 1 8 Try.underlying23 hi0 hz0 hz1 hz2 rfl (by decide) (.slice (some ⟨wr.heap.size, 0, none⟩) 0 0) 0 [] rfl HQ0.out ⟨bp, 0, none⟩ k co (ps.map (Value.int .i64)) rfl (by rw [List.length_map, HK.out, Nat.mul_one]) HCell.out ?c2 ?c3 ?c4 ?c5 ?_)
          case c2 => intro u hu; simp only [List.mem_map] at hu; obtain ⟨y, -, rfl⟩ := hu; rfl
          case c3 => unfold maxLen; omega
          case c4 => omega
          case c5 => simp
          intro v1 w4 hown1 hgrow1 hnil1 hat1
          have hne1 : v1 ≠ .slice none 0 0 := by intro e; have := hnil1; simp [e] at this
          have HO4 : Hid (w4.ownsRow wr.heap.size 3 1 v1 k (ps.map (Value.int .i64))) := Lib.hid (by simpa using hown1)
          obtain ⟨g1, c1, rfl, hc1⟩ := own_form' HO4.out hne1
          have E4 := Lib.hid (((Ext.refl wr).alloc (.cells #[] 3)).grown hgrow1 (fun b hb => by have hb' : wr.heap.size = b := Option.some.inj hb; omega))
          clear hown1 hgrow1 hnil1 hat1 hne1
          have HO5 : Hid ((w4.alloc (.cells #[.int .i64 V] 3)).ownsRow wr.heap.size 3 1 (.slice (some ⟨g1, 0, none⟩) k c1) k (ps.map (Value.int .i64))) := Lib.hid (HO4.out.alloc _)
          have hsz4 := E4.out.size_le
          go_wp2_with (at_builtin; refine wpList_append_own_at _ rfl (.tmp 42) (.tmp 44) 23 rfl wr.heap.size 3 i0 (.int .i64 0) 1 8 Try.underlying23 hi0 hz0 hz1 hz2 rfl (by decide) (.slice (some ⟨g1, 0, none⟩) k c1) k (ps.map (Value.int .i64)) rfl HO5.out ⟨w4.heap.size, 0, none⟩ 1 1 [.int .i64 V] rfl rfl ?d1 ?d2 ?d3 ?d4 ?d5 ?_)
          case d1 => intro j u hu; match j, hu with | 0, hu => (simp at hu; subst hu; simp [Addr.add, go_sem])
          case d2 => intro u hu; simp at hu; subst hu; rfl
          case d3 => unfold maxLen; omega
          case d4 => omega
          case d5 => simp; omega
          intro v2 w6 hown2 hgrow2 hnil2 hat2
          have hne2 : v2 ≠ .slice none 0 0 := by intro e; have := hnil2; simp [e] at this
          have HO6 : Hid (w6.ownsRow wr.heap.size 3 1 v2 (k + 1) ((ps ++ [V]).map (Value.int .i64))) := Lib.hid (by simpa using hown2)
          obtain ⟨g2, c2, rfl, hc2⟩ := own_form' HO6.out hne2
          have E6 := Lib.hid ((E4.out.alloc (.cells #[.int .i64 V] 3)).grown hgrow2 (fun b hb => (HO5.out.lt b hb).1))
          clear hown2 hgrow2 hnil2 hat2 hne2 HO5
          have hlen : (ps ++ [V]).length = k + 1 := by rw [List.length_append, HK.out]; rfl
          have HPA : Hid (IntsAt w6 (.slice (some ⟨g2, 0, none⟩) (ps ++ [V]).length c2) (ps ++ [V])) := Lib.hid (by rw [hlen]; exact row_at HO6.out hlen)
          have HLA := Lib.hid (HS.out.ext ((HE1.out.trans HE.out).trans E6.out))
          have hdd : (ps ++ [V]).length + d = n := by rw [hlen]; omega
          have HLEN := Lib.hid hlen; clear hlen
          go_wp2_with (fail)
          have hcall := HIH.out g2 c2 (ps ++ [V]) (most - N) w6 hdd hpb2 HPA.out HLA.out (by omega) (by omega)
          rw [HLEN.out] at hcall
          refine hcall.mono ?_
          rw [HR0.out]
          rintro e w7 ⟨rfl, hE7⟩
          have HE7 := Lib.hid (HE.out.trans (E6.out.trans hE7)); clear hE7 hcall hdd
          go_wp2
          go_roundw
          case rel => exact ⟨N + r, V + 1, rfl, rfl, by omega, by omega, by omega, by omega, HT2.out, HE7.out⟩
          case measure => simp [intOf]; omega
        · have hb2 : decide (N ≤ most) = false := by simp; omega
          have hN : N = TOT := by
            rw [← HT.out, show (hi - V).toNat = (hi - (V + 1)).toNat + 1 by omega]
            simp only [workLoop]
            rw [if_neg hle]
          subst hN
          go_wp2
          go_ret
          exact ⟨rfl, HE1.out.trans HE.out⟩
      · have hb1 : decide (V < hi) = false := by simp; omega
        have hN : N = TOT := by
          rw [← HT.out, show (hi - V).toNat = 0 by omega]
          rfl
        subst hN
        go_wp2
        go_ret
        exact ⟨rfl, HE1.out.trans HE.out⟩

set_option linter.unusedVariables false in
set_option maxRecDepth 100000 in
set_option maxHeartbeats 4000000 in
theorem l2WorkNil (pn : Option Addr) (n c : Nat) (ls : List Lp) (hnb : nestB ls = true) (hn : ls.length = n) : ∀ (d : Nat) (ps : List Int) (most : Int) (w : World), d = n → ps = [] → PB ps → LoopsAt w (.slice pn n c) ls → 0 ≤ most → most ≤ 1200 →
    Calls Try.prog 100 #[.slice pn n c, .slice none 0 0, .int .i64 most] w fun e w' => e = .returned (.int .i64 (work ls d ps most)) ∧ Ext w w'
  | 0, ps, most, w, hd, hps, hpb, hs, h0, h1 => by
    have hb : ((0 : Int) == (n : Int)) = true := by simp; omega
    subst hd
    go_enter Try.func100, Try.ntmps100
    go_wp2
    go_ret
    exact ⟨rfl, Ext.refl w⟩
  | d + 1, ps, most, w, hd, hps, hpb, hs, h0, h1 => by
    obtain ⟨i0, hi0, hz0, hz1, hz2⟩ := info_parts infoInt
    have hn4 : n ≤ 4 := by have := (nestB_iff.1 hnb).1; rw [hn] at this; exact this
    obtain ⟨x, hx⟩ := get_some (xs := ls) (k := ps.length) (by rw [hps]; simp <;> omega)
    obtain ⟨b, off, q1, n1, q2, n2, rfl, c0, c1, hbb, hr1, hr2⟩ := hs.elem hx
    have hsd := nest_side hnb hx
    have hpt := hpb.pt (by rw [hps]; simp <;> omega)
    have hlo := lo_bd hsd.1 hpb (by rw [hps]; simp <;> omega)
    have hhi := hi_bd hsd.2 hpb (by rw [hps]; simp <;> omega)
    have hbn := bnd_le ps.length
    have HS := Lib.hid hs; have HX := Lib.hid hx; have HR1 := Lib.hid hr1; have HR2 := Lib.hid hr2; have S1 := Lib.hid hsd.1; have S2 := Lib.hid hsd.2; have HPT := Lib.hid hpt; have HPB := Lib.hid hpb
    have HIH := Lib.hid (l2WorkRow (some ⟨b, off, none⟩) n c ls hnb hn d)
    have HTOT : Hid (work ls (d + 1) ps most = workLoop (fun v m => work ls d (ps ++ [v]) m) most (hiV x ps - loV x ps).toNat (loV x ps) 1) := Lib.hid (by rw [← lpAt_of HX.out]; rfl)
    clear hs hx hr1 hr2 hsd hpt hpb hn hnb
    have hk : ps.length = 0 := by rw [hps]; rfl
    have HP : Hid (IntsAt w (.slice none 0 0) ps) := Lib.hid (by rw [hps]; exact ⟨none, 0, rfl, by simp, fun i x h => by simp at h⟩)
    have HPS := Lib.hid hps; clear hps
    rw [hk] at hlo hhi hbn c0 c1
    simp only [Nat.zero_mul, Nat.add_zero] at c0 c1
    have HK := Lib.hid hk; clear hk
    have hb : ((0 : Int) == (n : Int)) = false := by simp; omega
    have hkn : (0 : Int) < (n : Int) := by omega
    rw [HTOT.out]
    obtain ⟨TOT, hT0⟩ : ∃ TOT, workLoop (fun v m => work ls d (ps ++ [v]) m) most (hiV x ps - loV x ps).toNat (loV x ps) 1 = TOT := ⟨_, rfl⟩
    rw [hT0]
    have HT0 := Lib.hid hT0; clear hT0
    go_enter Try.func100, Try.ntmps100
    go_wp2_with (fail)
    refine (l2Range_any _ _ x (.slice none 0 0) ps _ HR1.out HR2.out HP.out S1.out S2.out HPT.out).mono ?_
    rintro e w1 ⟨rfl, hE⟩
    generalize loV x ps = lo at *
    generalize hiV x ps = hi at *
    have HE1 := Lib.hid hE
    clear hE c0 c1 HTOT
    go_wp2_with (fail)
    go_loopw [7, 10] (fun nn vv wr => ∃ (N V : Int), nn = .int .i64 N ∧ vv = .int .i64 V ∧ lo ≤ V ∧ (V ≤ hi ∨ V = lo) ∧ 1 ≤ N ∧ N ≤ most + ((d : Int) + 1) ∧ workLoop (fun v m => work ls d (ps ++ [v]) m) most (hi - V).toNat V N = TOT ∧ Ext w1 wr) (fun _ vv _ => (hi - intOf vv).toNat)
    case atStart => exact ⟨1, lo, rfl, rfl, by omega, .inr rfl, by omega, by omega, HT0.out, Ext.refl _⟩
    case round =>
      obtain ⟨N, V, rfl, rfl, hV1, hV2, hN1, hN2, hT, hE⟩ := hrel
      have HT := Lib.hid hT; have HE := Lib.hid hE; clear hT hE HT0
      have hV2' := Lib.hid hV2; clear hV2
      by_cases hlt : V < hi
      · have hb1 : decide (V < hi) = true := by simp [hlt]
        by_cases hle : N ≤ most
        · have hb2 : decide (N ≤ most) = true := by simp [hle]
          have HT2 : Hid (workLoop (fun v m => work ls d (ps ++ [v]) m) most (hi - (V + 1)).toNat (V + 1) (N + work ls d (ps ++ [V]) (most - N)) = TOT) := Lib.hid (by
            rw [← HT.out, show (hi - V).toNat = (hi - (V + 1)).toNat + 1 by omega]
            simp only [workLoop]
            rw [if_pos hle])
          have hr := work_bd ls d (ps ++ [V]) (most - N) (by omega)
          obtain ⟨r, hr0⟩ : ∃ r, work ls d (ps ++ [V]) (most - N) = r := ⟨_, rfl⟩
          rw [hr0] at hr HT2
          have HR0 := Lib.hid hr0; clear hr0
          have HQ0 : Hid ((wr.alloc (.cells #[] 3)).ownsRow wr.heap.size 3 1 (.slice (some ⟨wr.heap.size, 0, none⟩) 0 0) 0 []) := Lib.hid (World.ownsRow_made wr #[] 0 (Nat.le_refl _) (Nat.zero_le _) rfl)
          have hpb2 : PB (ps ++ [V]) := HPB.out.push (by rw [HK.out]; omega) (by rw [HK.out]; omega)
          have hat := HP.out.ext (HE1.out.trans HE.out)
          have E4 := Lib.hid ((Ext.refl wr).alloc (.cells #[] 3))
          have HO4 : Hid ((wr.alloc (.cells #[] 3)).ownsRow wr.heap.size 3 1 (.slice (some ⟨wr.heap.size, 0, none⟩) 0 0) 0 (ps.map (Value.int .i64))) := Lib.hid (by rw [HPS.out]; exact HQ0.out)
          clear hat
          have HO5 : Hid (((wr.alloc (.cells #[] 3)).alloc (.cells #[.int .i64 V] 3)).ownsRow wr.heap.size 3 1 (.slice (some ⟨wr.heap.size, 0, none⟩) 0 0) 0 (ps.map (Value.int .i64))) := Lib.hid (HO4.out.alloc _)
          have hsz4 := E4.out.size_le; simp only [World.size_alloc] at hsz4
          go_wp2_with (at_builtin; refine wpList_append_own_at _ rfl (.tmp 42) (.tmp 44) 23 rfl wr.heap.size 3 i0 (.int .i64 0) 1 8 Try.underlying23 hi0 hz0 hz1 hz2 rfl (by decide) (.slice (some ⟨wr.heap.size, 0, none⟩) 0 0) 0 (ps.map (Value.int .i64)) rfl HO5.out ⟨wr.heap.size + 1, 0, none⟩ 1 1 [.int .i64 V] rfl rfl ?d1 ?d2 ?d3 ?d4 ?d5 ?_)
          case d1 => intro j u hu; match j, hu with | 0, hu => (simp at hu; subst hu; simp [Addr.add, go_sem])
          case d2 => intro u hu; simp at hu; subst hu; rfl
          case d3 => unfold maxLen; omega
          case d4 => omega
          case d5 => simp; omega
          intro v2 w6 hown2 hgrow2 hnil2 hat2
          have hne2 : v2 ≠ .slice none 0 0 := by intro e; have := hnil2; simp [e] at this
          have HO6 : Hid (w6.ownsRow wr.heap.size 3 1 v2 (0 + 1) ((ps ++ [V]).map (Value.int .i64))) := Lib.hid (by simpa using hown2)
          obtain ⟨g2, c2, rfl, hc2⟩ := own_form' HO6.out hne2
          have E6 := Lib.hid ((E4.out.alloc (.cells #[.int .i64 V] 3)).grown hgrow2 (fun b hb => (HO5.out.lt b hb).1))
          clear hown2 hgrow2 hnil2 hat2 hne2 HO5
          have hlen : (ps ++ [V]).length = 0 + 1 := by rw [List.length_append, HK.out]; rfl
          have HPA : Hid (IntsAt w6 (.slice (some ⟨g2, 0, none⟩) (ps ++ [V]).length c2) (ps ++ [V])) := Lib.hid (by rw [hlen]; exact row_at HO6.out hlen)
          have HLA := Lib.hid (HS.out.ext ((HE1.out.trans HE.out).trans E6.out))
          have hdd : (ps ++ [V]).length + d = n := by rw [hlen]; omega
          have HLEN := Lib.hid hlen; clear hlen
          go_wp2_with (fail)
          have hcall := HIH.out g2 c2 (ps ++ [V]) (most - N) w6 hdd hpb2 HPA.out HLA.out (by omega) (by omega)
          rw [HLEN.out] at hcall
          refine hcall.mono ?_
          rw [HR0.out]
          rintro e w7 ⟨rfl, hE7⟩
          have HE7 := Lib.hid (HE.out.trans (E6.out.trans hE7)); clear hE7 hcall hdd
          go_wp2
          go_roundw
          case rel => exact ⟨N + r, V + 1, rfl, rfl, by omega, by omega, by omega, by omega, HT2.out, HE7.out⟩
          case measure => simp [intOf]; omega
        · have hb2 : decide (N ≤ most) = false := by simp; omega
          have hN : N = TOT := by
            rw [← HT.out, show (hi - V).toNat = (hi - (V + 1)).toNat + 1 by omega]
            simp only [workLoop]
            rw [if_neg hle]
          subst hN
          go_wp2
          go_ret
          exact ⟨rfl, HE1.out.trans HE.out⟩
      · have hb1 : decide (V < hi) = false := by simp; omega
        have hN : N = TOT := by
          rw [← HT.out, show (hi - V).toNat = 0 by omega]
          rfl
        subst hN
        go_wp2
        go_ret
        exact ⟨rfl, HE1.out.trans HE.out⟩
end Go.Proofs.Ytabkhiakekammaa
