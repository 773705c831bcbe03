/- The model's points of a nest. -/
import Derived.Test.YtabkhiakekammaaR2
import Derived.Test.YtabkhiakekammaaQ1
namespace Go.Proofs.Ytabkhiakekammaa
open Go.RowKit

/-- Lists of ints of the call's own. -/
def PtsOwn (B : Nat) (w : World) (v : Value) (xss : List (List Int)) : Prop := ∃ vs, w.ownsRow B 23 1 v xss.length vs ∧ ∀ (i : Nat) (xs : List Int), xss[i]? = some xs → ∃ u : Value, vs[i]? = some u ∧ IntsOwn B w u xs
/-- Whatever is no row of lists lies as it lay. -/
def Kt (w w' : World) : Prop := ∀ (g : Nat) (cs : Array Value) (T : TypeId) (fz : Nat × Nat), T ≠ 23 → w.heap[g]? = some (.cells cs T fz) → w'.heap[g]? = some (.cells cs T fz)
theorem Kt.refl (w : World) : Kt w w := fun _ _ _ _ _ h => h
theorem Kt.trans {a b c : World} (h : Kt a b) (k : Kt b c) : Kt a c := fun _ _ _ _ hT hg => k _ _ _ _ hT (h _ _ _ _ hT hg)
theorem Kt.ext {a b : World} (h : Ext a b) : Kt a b := fun _ _ _ _ _ hg => h.blk hg
theorem Kt.grown {a b : World} {row : Option Nat} (hg : a.grownBy b row) (ht : Tag a row 23) : Kt a b := fun _ _ _ _ hT h => blk_tag h hg ht (fun e => hT e.symm)
theorem row_kt {B size n : Nat} {e : TypeId} {w w' : World} {v : Value} {xs : List Value} (h : w.ownsRow B e size v n xs) (hk : Kt w w') (he : e ≠ 23) : w'.ownsRow B e size v n xs := by
  refine ⟨h.1, ?_⟩
  rcases h.2 with hn | ⟨g, cap, cur, hv, hbg, hgh, r⟩
  · exact .inl hn
  · exact .inr ⟨g, cap, cur, hv, hbg, hk g _ _ _ he hgh, r⟩
theorem PtsOwn.slice {B : Nat} {w : World} {v : Value} {xss : List (List Int)} (h : PtsOwn B w v xss) : ∃ p c, v = .slice p xss.length c := by
  obtain ⟨vs, ho, -⟩ := h
  rcases ho.2 with ⟨rfl, hn⟩ | ⟨g, cap, cur, rfl, _⟩
  · exact ⟨none, 0, by rw [hn]⟩
  · exact ⟨_, _, rfl⟩
theorem PtsOwn.ext {B : Nat} {w w' : World} {v : Value} {xss : List (List Int)} (h : PtsOwn B w v xss) (hE : Ext w w') : PtsOwn B w' v xss := by
  obtain ⟨vs, ho, he⟩ := h
  exact ⟨vs, ownsRow_ext ho hE, fun i xs hi => by obtain ⟨u, h0, h1⟩ := he i xs hi; exact ⟨u, h0, h1.ext hE⟩⟩
theorem PtsOwn.made {B g c : Nat} {w : World} (h : w.ownsRow B 23 1 (.slice (some ⟨g, 0, none⟩) 0 c) 0 []) : PtsOwn B w (.slice (some ⟨g, 0, none⟩) 0 c) [] := ⟨[], h, fun i x hi => by simp at hi⟩
theorem PtsOwn.push {B m : Nat} {w w' : World} {v v' u : Value} {xss : List (List Int)} {ps : List Int} {vs : List Value} (hm : xss.length = m) (he : ∀ (i : Nat) (xs : List Int), xss[i]? = some xs → ∃ u : Value, vs[i]? = some u ∧ IntsOwn B w u xs) (hvl : vs.length = m)
    (ho' : w'.ownsRow B 23 1 v' (m + 1) (vs ++ [u])) (hg : w.grownBy w' v.ownBlock) (ht : Tag w v.ownBlock 23) (hx : IntsOwn B w u ps) : PtsOwn B w' v' (xss ++ [ps]) := by
  refine ⟨vs ++ [u], by rw [List.length_append, hm]; exact ho', fun i xs hi => ?_⟩
  rcases Nat.lt_or_ge i xss.length with hlt | hge
  · rw [List.getElem?_append_left hlt] at hi
    obtain ⟨u', h0, h1⟩ := he i xs hi
    exact ⟨u', by rw [List.getElem?_append_left (by omega)]; exact h0, h1.tag hg ht (by decide)⟩
  · rw [List.getElem?_append_right hge] at hi
    have hi0 : i - xss.length = 0 := by
      rcases Nat.eq_zero_or_pos (i - xss.length) with h | h
      · exact h
      · rw [List.getElem?_eq_none (by simp; omega)] at hi; cases hi
    rw [hi0] at hi
    simp at hi
    subst hi
    have hin : i = m := by omega
    subst hin
    exact ⟨u, by rw [List.getElem?_append_right (by omega)]; simp [hvl], hx.tag hg ht (by decide)⟩
theorem infoSS : (Try.prog.info? 23).map (fun i => (i.zero, i.size, i.bytes)) = some (some (.slice none 0 0), 1, 24) := by kernel_rfl
theorem underSS : Try.prog.underlying 54 = some (.slice 23) := by kernel_rfl
theorem one_cell {L : Nat} {w : World} {u : Value} {t : TypeId} (hL : L = w.heap.size) : ∀ j v, [u][j]? = some v → (w.alloc (.cells #[u] t)).cell? ((⟨L, 0, none⟩ : Addr).add j) = some v := by
  subst hL
  intro q v hq
  match q, hq with
  | 0, hq => simp at hq; subst hq; simp [Addr.add]

set_option linter.unusedVariables false in
set_option maxRecDepth 100000 in
set_option maxHeartbeats 4000000 in
theorem l2PtsRow (W0 : World) (pn : Option Addr) (n c : Nat) (ls : List Lp) (hnb : nestB ls = true) (hn : ls.length = n) (hs : LoopsAt W0 (.slice pn n c) ls) : ∀ (d : Nat) (bp co : Nat) (ps : List Int) (ov : Value) (xss : List (List Int)) (w : World), ps.length + d = n → PB ps → w.ownsRow 0 3 1 (.slice (some ⟨bp, 0, none⟩) ps.length co) ps.length (ps.map (Value.int .i64)) → PtsOwn W0.heap.size w ov xss → xss.length ≤ 120 → Ext W0 w →
    Calls Try.prog 101 #[ov, .slice pn n c, .slice (some ⟨bp, 0, none⟩) ps.length co] w fun e w' => (∃ v', e = .returned v' ∧ PtsOwn W0.heap.size w' v' (pts ls d ps xss)) ∧ Ext W0 w' ∧ Kt w w'
  | 0, bp, co, ps, ov, xss, w, hd, hpb, hp, ho, hl, hE => by
    obtain ⟨i0, hi0, hz0, hz1, hz2⟩ := info_parts infoInt
    obtain ⟨j0, hj0, hj1, hj2, hj3⟩ := info_parts infoSS
    obtain ⟨k, hk⟩ : ∃ k, ps.length = k := ⟨_, rfl⟩
    rw [hk] at hp hd ⊢
    have HK := Lib.hid hk; clear hk
    have hb : ((k : Int) == (n : Int)) = true := by simp; omega
    have hk4 : k ≤ 4 := by have := (nestB_iff.1 hnb).1; rw [hn] at this; omega
    have HP := Lib.hid hp; clear hp
    have HO := Lib.hid ho; have HX := Lib.hid hE; clear ho hE
    obtain ⟨qo, co2, rfl⟩ := PtsOwn.slice HO.out
    obtain ⟨m, hm⟩ : ∃ m, xss.length = m := ⟨_, rfl⟩
    have HM := Lib.hid hm
    rw [hm] at hl HO ⊢
    clear hm
    obtain ⟨wr, hwr⟩ : ∃ wr, wr = w := ⟨_, rfl⟩
    subst hwr
    have HQ0 : Hid ((wr.alloc (.cells #[] 3)).ownsRow wr.heap.size 3 1 (.slice (some ⟨wr.heap.size, 0, none⟩) 0 0) 0 []) := Lib.hid (World.ownsRow_made wr #[] 0 (Nat.le_refl _) (Nat.zero_le _) rfl)
    have hat := row_at HP.out HK.out
    go_enter Try.func101, Try.ntmps101
    have hcell : ∀ j u, (ps.map (Value.int .i64))[j]? = some u → (wr.alloc (.cells #[] 3)).cell? ((⟨bp, 0, none⟩ : Addr).add j) = some u := by
      intro j u hu
      simp only [List.getElem?_map, Option.map_eq_some_iff] at hu
      obtain ⟨y, hy, rfl⟩ := hu
      obtain ⟨p', c'', e', hm', hc'⟩ := hat
      cases e'
      obtain ⟨b', o', e2, hcl⟩ := hc' j y hy
      cases e2
      rw [Addr.add_lit]
      exact ((Ext.refl wr).alloc _).keep hcl
    have HCell := Lib.hid hcell; clear hcell
    go_wp2_with (at_builtin; refine wpList_append_own_at _ rfl (.tmp 16) (.tmp 17) 23 rfl wr.heap.size 3 i0 (.int .i64 0) 1 8 Try.underlying23 hi0 hz0 hz1 hz2 rfl (by decide) (.slice (some ⟨wr.heap.size, 0, none⟩) 0 0) 0 [] rfl HQ0.out ⟨bp, 0, none⟩ k co (ps.map (Value.int .i64)) rfl (by rw [List.length_map, HK.out, Nat.mul_one]) HCell.out ?c2 ?c3 ?c4 ?c5 ?_)
    case c2 => intro u hu; simp only [List.mem_map] at hu; obtain ⟨y, -, rfl⟩ := hu; rfl
    case c3 => unfold maxLen; omega
    case c4 => omega
    case c5 => simp
    intro v1 w4 hown1 hgrow1 hnil1 hat1
    have hne1 : v1 ≠ .slice none 0 0 := by intro e; have := hnil1; simp [e] at this
    have HO4 : Hid (w4.ownsRow wr.heap.size 3 1 v1 k (ps.map (Value.int .i64))) := Lib.hid (by simpa using hown1)
    obtain ⟨g1, c1, rfl, hc1⟩ := own_form' HO4.out hne1
    have E4 := Lib.hid (((Ext.refl wr).alloc (.cells #[] 3)).grown hgrow1 (fun b hb => by have hb' : wr.heap.size = b := Option.some.inj hb; omega))
    clear hown1 hgrow1 hnil1 hat1 hne1
    have hsz4 := E4.out.size_le
    have EE := E4.out.alloc (.cells #[.slice (some ⟨g1, 0, none⟩) k c1] 23)
    have HPO := Lib.hid (HO.out.ext EE)
    obtain ⟨vs, ho, he⟩ := HPO.out
    rw [HM.out] at ho
    have hvl := ho.1
    rw [Nat.mul_one] at hvl
    have hx0 := HX.out.size_le
    have HEL : Hid (IntsOwn W0.heap.size (w4.alloc (.cells #[.slice (some ⟨g1, 0, none⟩) k c1] 23)) (.slice (some ⟨g1, 0, none⟩) k c1) ps) := Lib.hid (IntsOwn.ext (IntsOwn.weak (IntsOwn.mk HO4.out HK.out) hx0) ((Ext.refl _).alloc _))
    have HHE := Lib.hid he; clear he HPO
    go_wp2_with (at_builtin; refine wpList_append_own_at _ rfl (.tmp 15) (.tmp 19) 54 rfl W0.heap.size 23 j0 (.slice none 0 0) 1 24 underSS hj0 hj1 hj2 hj3 rfl (by decide) (.slice qo m co2) m vs rfl ho ⟨w4.heap.size, 0, none⟩ 1 1 [.slice (some ⟨g1, 0, none⟩) k c1] rfl rfl ?e1 ?e2 ?e3 ?e4 ?e5 ?_)
    case e1 => exact one_cell (by simp)
    case e2 => intro u hu; simp at hu; subst hu; rfl
    case e3 => unfold maxLen; omega
    case e4 => omega
    case e5 => simp; omega
    intro v2 w6 hown2 hgrow2 hnil2 hat2
    have HRS := Lib.hid (PtsOwn.push HM.out HHE.out hvl hown2 hgrow2 (own_tag ho) HEL.out)
    have EW := Lib.hid ((HX.out.trans EE).grown hgrow2 (fun b hb => (ho.lt b hb).1)); have KW := Lib.hid ((Kt.ext EE).trans (Kt.grown hgrow2 (own_tag ho)))
    clear hown2 hgrow2 hnil2 hat2 ho EE
    go_wp2
    go_ret
    exact ⟨⟨_, rfl, HRS.out⟩, EW.out, KW.out⟩
  | d + 1, bp, co, ps, ov, xss, w, hd, hpb, hp, ho, hl, hE => by
    obtain ⟨i0, hi0, hz0, hz1, hz2⟩ := info_parts infoInt
    have hn4 : n ≤ 4 := by have := (nestB_iff.1 hnb).1; rw [hn] at this; exact this
    obtain ⟨x, hx⟩ := get_some (xs := ls) (k := ps.length) (by omega)
    obtain ⟨b, off, q1, n1, q2, n2, rfl, c0, c1, hbb, hr1, hr2⟩ := hs.elem hx
    replace c0 := hE.keep c0
    replace c1 := hE.keep c1
    have hsd := nest_side hnb hx
    have hpt := hpb.pt (by omega)
    have hlo := lo_bd hsd.1 hpb (by omega)
    have hhi := hi_bd hsd.2 hpb (by omega)
    have hbn := bnd_le ps.length
    have HS := Lib.hid hs; have HX := Lib.hid hx; have HR1 := Lib.hid (hr1.ext hE); have HR2 := Lib.hid (hr2.ext hE); have S1 := Lib.hid hsd.1; have S2 := Lib.hid hsd.2; have HPT := Lib.hid hpt; have HPB := Lib.hid hpb; have HO := Lib.hid ho; have HE0 := Lib.hid hE
    have HIH := Lib.hid (l2PtsRow W0 (some ⟨b, off, none⟩) n c ls hnb hn hs d)
    have HTOT : Hid (pts ls (d + 1) ps xss = ptsLoop (fun v o => pts ls d (ps ++ [v]) o) (hiV x ps - loV x ps).toNat (loV x ps) xss) := Lib.hid (by rw [← lpAt_of HX.out]; rfl)
    clear hs hx hr1 hr2 hsd hpt hpb hn hnb ho hE
    obtain ⟨k, hk⟩ : ∃ k, ps.length = k := ⟨_, rfl⟩
    rw [hk] at hp hd hlo hhi hbn c0 c1 ⊢
    have HPR := Lib.hid hp; clear hp
    have HK := Lib.hid hk; clear hk
    have HP : Hid (IntsAt w (.slice (some ⟨bp, 0, none⟩) k co) ps) := Lib.hid (row_at HPR.out HK.out)
    have hb : ((k : Int) == (n : Int)) = false := by simp; omega
    have hk0 : (0 : Int) ≤ (k : Int) := by omega
    have hkn : (k : Int) < (n : Int) := by omega
    rw [HTOT.out]
    obtain ⟨TOT, hT0⟩ : ∃ TOT, ptsLoop (fun v o => pts ls d (ps ++ [v]) o) (hiV x ps - loV x ps).toNat (loV x ps) xss = TOT := ⟨_, rfl⟩
    rw [hT0]
    have HT0 := Lib.hid hT0; clear hT0
    obtain ⟨qo, co2, rfl⟩ := PtsOwn.slice HO.out
    go_enter Try.func101, Try.ntmps101
    go_wp2_with (fail)
    refine (l2Range_any _ _ x (.slice (some ⟨bp, 0, none⟩) k co) ps _ HR1.out HR2.out HP.out S1.out S2.out HPT.out).mono ?_
    rintro e w1 ⟨rfl, hE⟩
    generalize loV x ps = lo at *
    generalize hiV x ps = hi at *
    have HE1 := Lib.hid hE
    clear hE c0 c1 HTOT
    go_wp2_with (fail)
    go_loopw [0, 9] (fun ov vv wr => ∃ (V : Int) (os : List (List Int)), vv = .int .i64 V ∧ lo ≤ V ∧ (V ≤ hi ∨ V = lo) ∧ PtsOwn W0.heap.size wr ov os ∧ os.length ≤ 121 ∧ ptsLoop (fun v o => pts ls d (ps ++ [v]) o) (hi - V).toNat V os = TOT ∧ Ext W0 wr ∧ Kt w1 wr) (fun _ vv _ => (hi - intOf vv).toNat)
    case atStart => exact ⟨lo, xss, rfl, by omega, .inr rfl, HO.out.ext HE1.out, by omega, HT0.out, HE0.out.trans HE1.out, Kt.refl _⟩
    case round =>
      obtain ⟨V, os, rfl, hV1, hV2, hov, hol, hT, hE, hKt⟩ := hrel
      have HT := Lib.hid hT; have HE := Lib.hid hE; have HOV := Lib.hid hov; have HKT := Lib.hid hKt; clear hT hE hov hKt HT0
      have hV2' := Lib.hid hV2; clear hV2
      obtain ⟨qv, cv, rfl⟩ := PtsOwn.slice HOV.out
      obtain ⟨m, hm⟩ : ∃ m, os.length = m := ⟨_, rfl⟩
      have HM := Lib.hid hm
      rw [hm] at hol HOV ⊢
      clear hm
      by_cases hlt : V < hi
      · have hb1 : decide (V < hi) = true := by simp [hlt]
        by_cases hle : m ≤ 120
        · have hb2 : decide ((m : Int) ≤ 120) = true := decide_eq_true (by omega)
          have HT2 : Hid (ptsLoop (fun v o => pts ls d (ps ++ [v]) o) (hi - (V + 1)).toNat (V + 1) (pts ls d (ps ++ [V]) os) = TOT) := Lib.hid (by
            rw [← HT.out, show (hi - V).toNat = (hi - (V + 1)).toNat + 1 by omega]
            simp only [ptsLoop]
            rw [if_pos (by rw [HM.out]; exact hle)])
          have hptl := pts_bd ls d (ps ++ [V]) os (by rw [HM.out]; exact hle)
          have HQ0 : Hid ((wr.alloc (.cells #[] 3)).ownsRow wr.heap.size 3 1 (.slice (some ⟨wr.heap.size, 0, none⟩) 0 0) 0 []) := Lib.hid (World.ownsRow_made wr #[] 0 (Nat.le_refl _) (Nat.zero_le _) rfl)
          have hpb2 : PB (ps ++ [V]) := HPB.out.push (by rw [HK.out]; omega) (by rw [HK.out]; omega)
          have hat := row_at (row_kt (ownsRow_ext HPR.out HE1.out) HKT.out (by decide)) HK.out
          have hcell : ∀ j u, (ps.map (Value.int .i64))[j]? = some u → (wr.alloc (.cells #[] 3)).cell? ((⟨bp, 0, none⟩ : Addr).add j) = some u := by
            intro j u hu
            simp only [List.getElem?_map, Option.map_eq_some_iff] at hu
            obtain ⟨y, hy, rfl⟩ := hu
            obtain ⟨p', c'', e', hm', hc'⟩ := hat
            cases e'
            obtain ⟨b', o', e2, hcl⟩ := hc' j y hy
            cases e2
            rw [Addr.add_lit]
            exact ((Ext.refl wr).alloc _).keep hcl
          have HCell := Lib.hid hcell; clear hcell
          go_wp2_with (at_builtin; refine wpList_append_own_at _ rfl (.tmp 44) (.tmp 45) 23 rfl wr.heap.size 3 i0 (.int .i64 0) 1 8 Try.underlying23 hi0 hz0 hz1 hz2 rfl (by decide) (.slice (some ⟨wr.heap.size, 0, none⟩) 0 0) 0 [] rfl HQ0.out ⟨bp, 0, none⟩ k co (ps.map (Value.int .i64)) rfl (by rw [List.length_map, HK.out, Nat.mul_one]) HCell.out ?c2 ?c3 ?c4 ?c5 ?_)
          case c2 => intro u hu; simp only [List.mem_map] at hu; obtain ⟨y, -, rfl⟩ := hu; rfl
          case c3 => unfold maxLen; omega
          case c4 => omega
          case c5 => simp
          intro v1 w4 hown1 hgrow1 hnil1 hat1
          have hne1 : v1 ≠ .slice none 0 0 := by intro e; have := hnil1; simp [e] at this
          have HO4 : Hid (w4.ownsRow wr.heap.size 3 1 v1 k (ps.map (Value.int .i64))) := Lib.hid (by simpa using hown1)
          obtain ⟨g1, c1, rfl, hc1⟩ := own_form' HO4.out hne1
          have E4 := Lib.hid (((Ext.refl wr).alloc (.cells #[] 3)).grown hgrow1 (fun b hb => by have hb' : wr.heap.size = b := Option.some.inj hb; omega))
          clear hown1 hgrow1 hnil1 hat1 hne1
          have HO5 : Hid ((w4.alloc (.cells #[.int .i64 V] 3)).ownsRow wr.heap.size 3 1 (.slice (some ⟨g1, 0, none⟩) k c1) k (ps.map (Value.int .i64))) := Lib.hid (HO4.out.alloc _)
          have hsz4 := E4.out.size_le
          go_wp2_with (at_builtin; refine wpList_append_own_at _ rfl (.tmp 46) (.tmp 48) 23 rfl wr.heap.size 3 i0 (.int .i64 0) 1 8 Try.underlying23 hi0 hz0 hz1 hz2 rfl (by decide) (.slice (some ⟨g1, 0, none⟩) k c1) k (ps.map (Value.int .i64)) rfl HO5.out ⟨w4.heap.size, 0, none⟩ 1 1 [.int .i64 V] rfl rfl ?d1 ?d2 ?d3 ?d4 ?d5 ?_)
          case d1 => intro j u hu; match j, hu with | 0, hu => (simp at hu; subst hu; simp [Addr.add, go_sem])
          case d2 => intro u hu; simp at hu; subst hu; rfl
          case d3 => unfold maxLen; omega
          case d4 => omega
          case d5 => simp; omega
          intro v2 w6 hown2 hgrow2 hnil2 hat2
          have hne2 : v2 ≠ .slice none 0 0 := by intro e; have := hnil2; simp [e] at this
          have HO6 : Hid (w6.ownsRow wr.heap.size 3 1 v2 (k + 1) ((ps ++ [V]).map (Value.int .i64))) := Lib.hid (by simpa using hown2)
          obtain ⟨g2, c2, rfl, hc2⟩ := own_form' HO6.out hne2
          have E6 := Lib.hid ((E4.out.alloc (.cells #[.int .i64 V] 3)).grown hgrow2 (fun b hb => (HO5.out.lt b hb).1))
          clear hown2 hgrow2 hnil2 hat2 hne2 HO5
          have hlen : (ps ++ [V]).length = k + 1 := by rw [List.length_append, HK.out]; rfl
          have hdd : (ps ++ [V]).length + d = n := by rw [hlen]; omega
          have HLEN := Lib.hid hlen; clear hlen
          go_wp2_with (fail)
          have hcall := HIH.out g2 c2 (ps ++ [V]) (.slice qv m cv) os w6 hdd hpb2 (by rw [HLEN.out]; exact ownsRow_weak HO6.out (Nat.zero_le _)) (HOV.out.ext E6.out) (by rw [HM.out]; exact hle) (HE.out.trans E6.out)
          rw [HLEN.out] at hcall
          refine hcall.mono ?_
          rintro e w7 ⟨⟨v7, rfl, hp7⟩, hE7, hK7⟩
          have HP7 := Lib.hid hp7; have HE7 := Lib.hid hE7; have HK7 := Lib.hid (HKT.out.trans ((Kt.ext E6.out).trans hK7)); clear hp7 hE7 hK7 hcall hdd
          go_wp2
          go_roundw
          case rel => exact ⟨V + 1, _, rfl, by omega, by omega, HP7.out, hptl, HT2.out, HE7.out, HK7.out⟩
          case measure => simp [intOf]; omega
        · have hb2 : decide ((m : Int) ≤ 120) = false := decide_eq_false (by omega)
          have hN : os = TOT := by
            rw [← HT.out, show (hi - V).toNat = (hi - (V + 1)).toNat + 1 by omega]
            simp only [ptsLoop]
            rw [if_neg (by rw [HM.out]; exact hle)]
          have HN0 := Lib.hid hN; clear hN
          go_wp2
          go_ret
          exact ⟨⟨_, rfl, by rw [← HN0.out]; exact HOV.out⟩, HE.out, (Kt.ext HE1.out).trans HKT.out⟩
      · have hb1 : decide (V < hi) = false := by simp; omega
        have hN : os = TOT := by
          rw [← HT.out, show (hi - V).toNat = 0 by omega]
          rfl
        have HN0 := Lib.hid hN; clear hN
        go_wp2
        go_ret
        exact ⟨⟨_, rfl, by rw [← HN0.out]; exact HOV.out⟩, HE.out, (Kt.ext HE1.out).trans HKT.out⟩

set_option linter.unusedVariables false in
set_option maxRecDepth 100000 in
set_option maxHeartbeats 4000000 in
theorem l2PtsNil (W0 : World) (pn : Option Addr) (n c : Nat) (ls : List Lp) (hnb : nestB ls = true) (hn : ls.length = n) (hs : LoopsAt W0 (.slice pn n c) ls) : ∀ (d : Nat) (ps : List Int) (ov : Value) (xss : List (List Int)) (w : World), d = n → ps = [] → PB ps → PtsOwn W0.heap.size w ov xss → xss.length ≤ 120 → Ext W0 w →
    Calls Try.prog 101 #[ov, .slice pn n c, .slice none 0 0] w fun e w' => (∃ v', e = .returned v' ∧ PtsOwn W0.heap.size w' v' (pts ls d ps xss)) ∧ Ext W0 w' ∧ Kt w w'
  | 0, ps, ov, xss, w, hd, hps, hpb, ho, hl, hE => by
    obtain ⟨i0, hi0, hz0, hz1, hz2⟩ := info_parts infoInt
    obtain ⟨j0, hj0, hj1, hj2, hj3⟩ := info_parts infoSS
    subst hd
    have HPS := Lib.hid hps; have HK : Hid (ps.length = 0) := Lib.hid (by rw [hps]; rfl); clear hps
    have hb : ((0 : Int) == (0 : Int)) = true := rfl
    have HO := Lib.hid ho; have HX := Lib.hid hE; clear ho hE
    obtain ⟨qo, co2, rfl⟩ := PtsOwn.slice HO.out
    obtain ⟨m, hm⟩ : ∃ m, xss.length = m := ⟨_, rfl⟩
    have HM := Lib.hid hm
    rw [hm] at hl HO ⊢
    clear hm
    obtain ⟨wr, hwr⟩ : ∃ wr, wr = w := ⟨_, rfl⟩
    subst hwr
    have HQ0 : Hid ((wr.alloc (.cells #[] 3)).ownsRow wr.heap.size 3 1 (.slice (some ⟨wr.heap.size, 0, none⟩) 0 0) 0 []) := Lib.hid (World.ownsRow_made wr #[] 0 (Nat.le_refl _) (Nat.zero_le _) rfl)
    go_enter Try.func101, Try.ntmps101
    have E4 := Lib.hid ((Ext.refl wr).alloc (.cells #[] 3))
    have HO4 : Hid ((wr.alloc (.cells #[] 3)).ownsRow wr.heap.size 3 1 (.slice (some ⟨wr.heap.size, 0, none⟩) 0 0) 0 (ps.map (Value.int .i64))) := Lib.hid (by rw [HPS.out]; exact HQ0.out)
    have hsz4 := E4.out.size_le; simp only [World.size_alloc] at hsz4
    have EE := E4.out.alloc (.cells #[.slice (some ⟨wr.heap.size, 0, none⟩) 0 0] 23)
    have HPO := Lib.hid (HO.out.ext EE)
    obtain ⟨vs, ho, he⟩ := HPO.out
    rw [HM.out] at ho
    have hvl := ho.1
    rw [Nat.mul_one] at hvl
    have hx0 := HX.out.size_le
    have HEL : Hid (IntsOwn W0.heap.size ((wr.alloc (.cells #[] 3)).alloc (.cells #[.slice (some ⟨wr.heap.size, 0, none⟩) 0 0] 23)) (.slice (some ⟨wr.heap.size, 0, none⟩) 0 0) ps) := Lib.hid (IntsOwn.ext (IntsOwn.weak (IntsOwn.mk HO4.out HK.out) hx0) ((Ext.refl _).alloc _))
    have HHE := Lib.hid he; clear he HPO
    go_wp2_with (at_builtin; refine wpList_append_own_at _ rfl (.tmp 15) (.tmp 19) 54 rfl W0.heap.size 23 j0 (.slice none 0 0) 1 24 underSS hj0 hj1 hj2 hj3 rfl (by decide) (.slice qo m co2) m vs rfl ho ⟨wr.heap.size + 1, 0, none⟩ 1 1 [.slice (some ⟨wr.heap.size, 0, none⟩) 0 0] rfl rfl ?e1 ?e2 ?e3 ?e4 ?e5 ?_)
    case e1 => exact one_cell (by simp)
    case e2 => intro u hu; simp at hu; subst hu; rfl
    case e3 => unfold maxLen; omega
    case e4 => omega
    case e5 => simp; omega
    intro v2 w6 hown2 hgrow2 hnil2 hat2
    have HRS := Lib.hid (PtsOwn.push HM.out HHE.out hvl hown2 hgrow2 (own_tag ho) HEL.out)
    have EW := Lib.hid ((HX.out.trans EE).grown hgrow2 (fun b hb => (ho.lt b hb).1)); have KW := Lib.hid ((Kt.ext EE).trans (Kt.grown hgrow2 (own_tag ho)))
    clear hown2 hgrow2 hnil2 hat2 ho EE
    go_wp2
    go_ret
    exact ⟨⟨_, rfl, HRS.out⟩, EW.out, KW.out⟩
  | d + 1, ps, ov, xss, w, hd, hps, hpb, ho, hl, hE => by
    obtain ⟨i0, hi0, hz0, hz1, hz2⟩ := info_parts infoInt
    have hn4 : n ≤ 4 := by have := (nestB_iff.1 hnb).1; rw [hn] at this; exact this
    obtain ⟨x, hx⟩ := get_some (xs := ls) (k := ps.length) (by rw [hps]; simp <;> omega)
    obtain ⟨b, off, q1, n1, q2, n2, rfl, c0, c1, hbb, hr1, hr2⟩ := hs.elem hx
    replace c0 := hE.keep c0
    replace c1 := hE.keep c1
    have hsd := nest_side hnb hx
    have hpt := hpb.pt (by rw [hps]; simp <;> omega)
    have hlo := lo_bd hsd.1 hpb (by rw [hps]; simp <;> omega)
    have hhi := hi_bd hsd.2 hpb (by rw [hps]; simp <;> omega)
    have hbn := bnd_le ps.length
    have HS := Lib.hid hs; have HX := Lib.hid hx; have HR1 := Lib.hid (hr1.ext hE); have HR2 := Lib.hid (hr2.ext hE); have S1 := Lib.hid hsd.1; have S2 := Lib.hid hsd.2; have HPT := Lib.hid hpt; have HPB := Lib.hid hpb; have HO := Lib.hid ho; have HE0 := Lib.hid hE
    have HIH := Lib.hid (l2PtsRow W0 (some ⟨b, off, none⟩) n c ls hnb hn hs d)
    have HTOT : Hid (pts ls (d + 1) ps xss = ptsLoop (fun v o => pts ls d (ps ++ [v]) o) (hiV x ps - loV x ps).toNat (loV x ps) xss) := Lib.hid (by rw [← lpAt_of HX.out]; rfl)
    clear hs hx hr1 hr2 hsd hpt hpb hn hnb ho hE
    have hk : ps.length = 0 := by rw [hps]; rfl
    have HP : Hid (IntsAt w (.slice none 0 0) ps) := Lib.hid (by rw [hps]; exact ⟨none, 0, rfl, by simp, fun i x h => by simp at h⟩)
    have HPS := Lib.hid hps; clear hps
    rw [hk] at hlo hhi hbn c0 c1
    simp only [Nat.zero_mul, Nat.add_zero] at c0 c1
    have HK := Lib.hid hk; clear hk
    have hb : ((0 : Int) == (n : Int)) = false := by simp; omega
    have hkn : (0 : Int) < (n : Int) := by omega
    rw [HTOT.out]
    obtain ⟨TOT, hT0⟩ : ∃ TOT, ptsLoop (fun v o => pts ls d (ps ++ [v]) o) (hiV x ps - loV x ps).toNat (loV x ps) xss = TOT := ⟨_, rfl⟩
    rw [hT0]
    have HT0 := Lib.hid hT0; clear hT0
    obtain ⟨qo, co2, rfl⟩ := PtsOwn.slice HO.out
    go_enter Try.func101, Try.ntmps101
    go_wp2_with (fail)
    refine (l2Range_any _ _ x (.slice none 0 0) ps _ HR1.out HR2.out HP.out S1.out S2.out HPT.out).mono ?_
    rintro e w1 ⟨rfl, hE⟩
    generalize loV x ps = lo at *
    generalize hiV x ps = hi at *
    have HE1 := Lib.hid hE
    clear hE c0 c1 HTOT
    go_wp2_with (fail)
    go_loopw [0, 9] (fun ov vv wr => ∃ (V : Int) (os : List (List Int)), vv = .int .i64 V ∧ lo ≤ V ∧ (V ≤ hi ∨ V = lo) ∧ PtsOwn W0.heap.size wr ov os ∧ os.length ≤ 121 ∧ ptsLoop (fun v o => pts ls d (ps ++ [v]) o) (hi - V).toNat V os = TOT ∧ Ext W0 wr ∧ Kt w1 wr) (fun _ vv _ => (hi - intOf vv).toNat)
    case atStart => exact ⟨lo, xss, rfl, by omega, .inr rfl, HO.out.ext HE1.out, by omega, HT0.out, HE0.out.trans HE1.out, Kt.refl _⟩
    case round =>
      obtain ⟨V, os, rfl, hV1, hV2, hov, hol, hT, hE, hKt⟩ := hrel
      have HT := Lib.hid hT; have HE := Lib.hid hE; have HOV := Lib.hid hov; have HKT := Lib.hid hKt; clear hT hE hov hKt HT0
      have hV2' := Lib.hid hV2; clear hV2
      obtain ⟨qv, cv, rfl⟩ := PtsOwn.slice HOV.out
      obtain ⟨m, hm⟩ : ∃ m, os.length = m := ⟨_, rfl⟩
      have HM := Lib.hid hm
      rw [hm] at hol HOV ⊢
      clear hm
      by_cases hlt : V < hi
      · have hb1 : decide (V < hi) = true := by simp [hlt]
        by_cases hle : m ≤ 120
        · have hb2 : decide ((m : Int) ≤ 120) = true := decide_eq_true (by omega)
          have HT2 : Hid (ptsLoop (fun v o => pts ls d (ps ++ [v]) o) (hi - (V + 1)).toNat (V + 1) (pts ls d (ps ++ [V]) os) = TOT) := Lib.hid (by
            rw [← HT.out, show (hi - V).toNat = (hi - (V + 1)).toNat + 1 by omega]
            simp only [ptsLoop]
            rw [if_pos (by rw [HM.out]; exact hle)])
          have hptl := pts_bd ls d (ps ++ [V]) os (by rw [HM.out]; exact hle)
          have HQ0 : Hid ((wr.alloc (.cells #[] 3)).ownsRow wr.heap.size 3 1 (.slice (some ⟨wr.heap.size, 0, none⟩) 0 0) 0 []) := Lib.hid (World.ownsRow_made wr #[] 0 (Nat.le_refl _) (Nat.zero_le _) rfl)
          have hpb2 : PB (ps ++ [V]) := HPB.out.push (by rw [HK.out]; omega) (by rw [HK.out]; omega)
          have E4 := Lib.hid ((Ext.refl wr).alloc (.cells #[] 3))
          have HO4 : Hid ((wr.alloc (.cells #[] 3)).ownsRow wr.heap.size 3 1 (.slice (some ⟨wr.heap.size, 0, none⟩) 0 0) 0 (ps.map (Value.int .i64))) := Lib.hid (by rw [HPS.out]; exact HQ0.out)
          have HO5 : Hid (((wr.alloc (.cells #[] 3)).alloc (.cells #[.int .i64 V] 3)).ownsRow wr.heap.size 3 1 (.slice (some ⟨wr.heap.size, 0, none⟩) 0 0) 0 (ps.map (Value.int .i64))) := Lib.hid (HO4.out.alloc _)
          have hsz4 := E4.out.size_le; simp only [World.size_alloc] at hsz4
          go_wp2_with (at_builtin; refine wpList_append_own_at _ rfl (.tmp 46) (.tmp 48) 23 rfl wr.heap.size 3 i0 (.int .i64 0) 1 8 Try.underlying23 hi0 hz0 hz1 hz2 rfl (by decide) (.slice (some ⟨wr.heap.size, 0, none⟩) 0 0) 0 (ps.map (Value.int .i64)) rfl HO5.out ⟨wr.heap.size + 1, 0, none⟩ 1 1 [.int .i64 V] rfl rfl ?d1 ?d2 ?d3 ?d4 ?d5 ?_)
          case d1 => intro j u hu; match j, hu with | 0, hu => (simp at hu; subst hu; simp [Addr.add, go_sem])
          case d2 => intro u hu; simp at hu; subst hu; rfl
          case d3 => unfold maxLen; omega
          case d4 => omega
          case d5 => simp; omega
          intro v2 w6 hown2 hgrow2 hnil2 hat2
          have hne2 : v2 ≠ .slice none 0 0 := by intro e; have := hnil2; simp [e] at this
          have HO6 : Hid (w6.ownsRow wr.heap.size 3 1 v2 (0 + 1) ((ps ++ [V]).map (Value.int .i64))) := Lib.hid (by simpa using hown2)
          obtain ⟨g2, c2, rfl, hc2⟩ := own_form' HO6.out hne2
          have E6 := Lib.hid ((E4.out.alloc (.cells #[.int .i64 V] 3)).grown hgrow2 (fun b hb => (HO5.out.lt b hb).1))
          clear hown2 hgrow2 hnil2 hat2 hne2 HO5
          have hlen : (ps ++ [V]).length = 0 + 1 := by rw [List.length_append, HK.out]; rfl
          have hdd : (ps ++ [V]).length + d = n := by rw [hlen]; omega
          have HLEN := Lib.hid hlen; clear hlen
          go_wp2_with (fail)
          have hcall := HIH.out g2 c2 (ps ++ [V]) (.slice qv m cv) os w6 hdd hpb2 (by rw [HLEN.out]; exact ownsRow_weak HO6.out (Nat.zero_le _)) (HOV.out.ext E6.out) (by rw [HM.out]; exact hle) (HE.out.trans E6.out)
          rw [HLEN.out] at hcall
          refine hcall.mono ?_
          rintro e w7 ⟨⟨v7, rfl, hp7⟩, hE7, hK7⟩
          have HP7 := Lib.hid hp7; have HE7 := Lib.hid hE7; have HK7 := Lib.hid (HKT.out.trans ((Kt.ext E6.out).trans hK7)); clear hp7 hE7 hK7 hcall hdd
          go_wp2
          go_roundw
          case rel => exact ⟨V + 1, _, rfl, by omega, by omega, HP7.out, hptl, HT2.out, HE7.out, HK7.out⟩
          case measure => simp [intOf]; omega
        · have hb2 : decide ((m : Int) ≤ 120) = false := decide_eq_false (by omega)
          have hN : os = TOT := by
            rw [← HT.out, show (hi - V).toNat = (hi - (V + 1)).toNat + 1 by omega]
            simp only [ptsLoop]
            rw [if_neg (by rw [HM.out]; exact hle)]
          have HN0 := Lib.hid hN; clear hN
          go_wp2
          go_ret
          exact ⟨⟨_, rfl, by rw [← HN0.out]; exact HOV.out⟩, HE.out, (Kt.ext HE1.out).trans HKT.out⟩
      · have hb1 : decide (V < hi) = false := by simp; omega
        have hN : os = TOT := by
          rw [← HT.out, show (hi - V).toNat = 0 by omega]
          rfl
        have HN0 := Lib.hid hN; clear hN
        go_wp2
        go_ret
        exact ⟨⟨_, rfl, by rw [← HN0.out]; exact HOV.out⟩, HE.out, (Kt.ext HE1.out).trans HKT.out⟩
end Go.Proofs.Ytabkhiakekammaa
