/- The texts U5, joined. No statement is proved here. -/
import Derived.Test.YtggpjapmhakklaaK18
/- The ring of a cache's entries: hold (by u5.py). No statement is proved here. -/
namespace Go.Proofs.Ytggpjapmhakklaa
open Go.RowKit Go.Maps
attribute [local go_sem] Oper.semAt_some

theorem filt_mid {l r : List (Nat × Int)} {b : Nat} {c : Int} (hn : ((l ++ (b, c) :: r).map (fun x => x.2)).Nodup) : (l ++ (b, c) :: r).filter (fun x => decide (x.2 ≠ c)) = l ++ r := by
  rw [List.map_append, List.nodup_append, List.map_cons, List.nodup_cons] at hn
  obtain ⟨h1, ⟨h2, h3⟩, h4⟩ := hn
  rw [List.filter_append, List.filter_cons_of_neg (by simp)]
  congr 1
  · rw [List.filter_eq_self]
    intro x hx
    simp only [decide_eq_true_eq]
    exact fun e => h4 x.2 (List.mem_map.2 ⟨x, hx, rfl⟩) c (by simp) e
  · rw [List.filter_eq_self]
    intro x hx
    simp only [decide_eq_true_eq]
    exact fun e => h2 (List.mem_map.2 ⟨x, hx, e⟩)
theorem filt_none {L : List (Nat × Int)} {c : Int} (h : c ∉ L.map (fun x => x.2)) : L.filter (fun x => decide (x.2 ≠ c)) = L := by
  rw [List.filter_eq_self]
  intro x hx
  simp only [decide_eq_true_eq]
  exact fun e => h (List.mem_map.2 ⟨x, hx, e⟩)

set_option linter.unusedVariables false in
set_option linter.unusedSimpArgs false in
set_option maxRecDepth 100000 in
set_option maxHeartbeats 4000000 in
theorem hold_any (mb e0 n : Nat) (L : List (Nat × Int)) (c nx : Int) (w : World) (hR : RecS w mb e0 n L) (hc : i64 c) (hn : n ≤ 1000) :
    Calls Try.prog 37 #[.agg #[.map (some mb), .pointer (some ⟨e0, 0, none⟩)], .agg #[.int .i64 c, .int .i64 nx]] w fun e w' => ∃ b, e = .returned (.bool (decide (c ∈ L.map (fun x => x.2)))) ∧
      RecS w' mb e0 (n + 1) ((b, c) :: L.filter (fun x => decide (x.2 ≠ c))) ∧ (b ∈ L.map (fun x => x.1) ∨ w.heap.size ≤ b) ∧ Lv (fun k => k ∈ mb :: e0 :: L.map (fun x => x.1)) w w' := by
  obtain ⟨g0, hg0⟩ : ∃ g, w.heap.size = g := ⟨_, rfl⟩
  obtain ⟨W0, hW0⟩ : ∃ W0, (w.alloc (.cells #[.map (some mb), .pointer (some ⟨e0, 0, none⟩)] 61)).alloc (.cells #[.int .i64 c, .int .i64 nx] 67) = W0 := ⟨_, rfl⟩
  have E0 : Ext w W0 := by rw [← hW0]; exact ((Ext.refl w).alloc _).alloc _
  have B0 : W0.heap[g0]? = some (.cells #[.map (some mb), .pointer (some ⟨e0, 0, none⟩)] 61 (0, 0)) := by rw [← hW0]; exact blk_old (blk_at hg0.symm)
  have B1 : W0.heap[g0 + 1]? = some (.cells #[.int .i64 c, .int .i64 nx] 67 (0, 0)) := by rw [← hW0]; exact blk_at (by simp [hg0])
  have hs0 : W0.heap.size = g0 + 2 := by rw [← hW0]; simp [hg0]
  have hR0 := hR.ext E0
  have hltw := hR.lt
  rw [hg0] at hltw
  obtain ⟨hring, hmap, hnd, hi⟩ := id hR0
  have hlk := hmap.imp.lookOk (T := 58) undMapE (zeroE _) (wfI hc.1 hc.2)
  obtain ⟨r0, r1, -, -⟩ := blk2 B0
  obtain ⟨u0, u1, -, -⟩ := blk2 B1
  have HND := Lib.hid hnd; have HI := Lib.hid hi; have HMAP := Lib.hid hmap; have HNE := Lib.hid hR0.ne; have HLT := Lib.hid hltw; have HE0 := Lib.hid E0; have HB0 := Lib.hid B0; have HB1 := Lib.hid B1; have HS0 := Lib.hid hs0
  by_cases hin : c ∈ L.map (fun x => x.2)
  · obtain ⟨eb, l, r, rfl, hF, hcl⟩ := entF_some hin
    rw [hF] at hlk
    dsimp only [Option.getD_some, Option.isSome_some] at hlk
    have HDEC : Hid (decide (c ∈ (l ++ (eb, c) :: r).map (fun x => x.2)) = true) := Lib.hid (decide_eq_true hin)
    have HUL := Lib.hid (unlink_any e0 eb c l r W0 hring)
    obtain ⟨M, hM⟩ : ∃ M, l ++ r = M := ⟨_, rfl⟩
    rw [hM] at HUL
    have HFL : Hid ((l ++ (eb, c) :: r).filter (fun x => decide (x.2 ≠ c)) = M) := Lib.hid (by rw [filt_mid hnd, hM])
    have HENT : Hid (entF ((eb, c) :: M) = entF (l ++ (eb, c) :: r)) := Lib.hid (by rw [← hM]; exact entF_move hnd)
    have HSUB : Hid (∀ k, k ∈ e0 :: M.map (fun x => x.1) → k ∈ e0 :: (l ++ (eb, c) :: r).map (fun x => x.1)) := Lib.hid (fun k hk => by
      rw [← hM] at hk
      simp only [List.map_append, List.map_cons, List.mem_cons, List.mem_append] at hk ⊢
      rcases hk with h | h | h
      · exact .inl h
      · exact .inr (.inl h)
      · exact .inr (.inr (.inr h)))
    have hebL : eb ∈ (l ++ (eb, c) :: r).map (fun x => x.1) := by simp
    have HEBL := Lib.hid hebL
    have HNB : Hid (eb ∉ e0 :: M.map (fun x => x.1)) := Lib.hid (by
      obtain ⟨la, er, h1, h2, h3⟩ := hring
      rw [← hM]
      rw [List.map_append, List.map_cons, List.nodup_cons, List.nodup_append, List.nodup_cons] at h2
      obtain ⟨a1, a2, ⟨a3, a4⟩, a5⟩ := h2
      simp only [List.mem_append, List.mem_cons, not_or] at a1
      simp only [List.map_append, List.mem_cons, List.mem_append, not_or]
      exact ⟨fun e1 => a1.2.1 e1.symm, fun hm => a5 eb hm eb (by simp) rfl, a3⟩)
    have HLEN : Hid (((eb, c) :: M).length = (l ++ (eb, c) :: r).length) := Lib.hid (by rw [← hM]; simp; omega)
    have HMND : Hid ((((eb, c) :: M).map (fun x => x.2)).Nodup ∧ ∀ x ∈ (eb, c) :: M, i64 x.2) := Lib.hid (by
      rw [← hM]
      refine ⟨?_, fun x hx => hi x ?_⟩
      · have h := hnd
        rw [List.map_append, List.map_cons] at h
        simp only [List.map_cons, List.map_append]
        exact (List.perm_middle.nodup_iff).1 h
      · simp only [List.mem_cons, List.mem_append] at hx ⊢
        rcases hx with h | h | h
        · exact .inr (.inl h)
        · exact .inl h
        · exact .inr (.inr h))
    clear hR hR0 hring hmap hnd hi hltw hF hcl hin E0 B0 B1 hM hebL hs0
    go_enter Try.func37, Try.ntmps37
    go_wp2_with (fail)
    try rw [hW0]
    try rw [hg0]
    refine HUL.out.mono ?_
    rintro e X ⟨rfl, hring, ⟨x, y, hent⟩, hlv⟩
    have hltg : ∀ k, k ∈ e0 :: M.map (fun x => x.1) → k < g0 := fun k hk => HLT.out k (List.mem_cons_of_mem _ (HSUB.out k hk))
    have HRING := Lib.hid hring; have HEB := Lib.hid hent; have HLV := Lib.hid hlv
    have HBX := Lib.hid (hlv.heap HB0.out (fun h => by have := hltg _ h; omega))
    have HMX := Lib.hid (HMAP.out.lv hlv (fun h => HNE.out (HSUB.out _ h)))
    have HMNB : Hid (mb ≠ eb ∧ mb ∉ e0 :: M.map (fun x => x.1)) := Lib.hid ⟨fun e => HNE.out (by rw [e]; exact List.mem_cons_of_mem _ HEBL.out), fun h => HNE.out (HSUB.out _ h)⟩
    clear hring hent hlv hltg r0 r1 u0 u1 hlk hW0 hg0
    obtain ⟨la, er, h1, h2, h3⟩ := HRING.out
    have EX : Ext X X.drew := (Ext.refl X).drew
    obtain ⟨xd, hxd⟩ : ∃ xd, X.drew = xd := ⟨_, rfl⟩
    rw [hxd] at EX
    have HXD := Lib.hid hxd
    have h3d := h3.ext EX; have hbd := EX.blk HBX.out; have hed := EX.blk HEB.out
    obtain ⟨-, x1, -, -⟩ := blk2 hbd
    obtain ⟨-, -, x2, -⟩ := (h3d (e0, 0) (List.mem_cons_self ..)).cells
    dsimp only at x2
    obtain ⟨s1, s2, s3, s4, s5, s6, s7⟩ := ring_push1 h3d hed HNB.out e0 (er e0)
    have hgb : ¬ (g0 = eb) := fun e => by subst e; rw [hed] at hbd; simp at hbd
    have heb : ¬ (e0 = eb) := fun e => HNB.out (by rw [← e]; simp)
    have heb2 : ¬ (eb = e0) := fun e => heb e.symm
    have HS5 := Lib.hid s5; have HS6 := Lib.hid s6; have HS7 := Lib.hid s7; have HH1 := Lib.hid h1; have HH2 := Lib.hid h2; have HEX := Lib.hid EX
    clear h1 h2 h3 h3d hbd hed s5 s6 s7 hxd EX
    go_wp2_with (fail)
    refine wp_region_last (S := (fun W => W.cell? ⟨g0, 1, none⟩ = some (.pointer (some ⟨e0, 0, none⟩)) ∧ W.cell? ⟨e0, 2, none⟩ = some (.pointer (some ⟨er e0, 0, none⟩)))) (by kernel_rfl) (by rw [HXD.out]; exact ⟨x1, x2⟩) (fun hHeld => ?_)
    rw [HXD.out] at hHeld ⊢
    refine tkL (some 27) 0 ?vpa1 rfl (by kernel_rfl) (by kernel_rfl) (fun _ _ _ h => h) (Or.inl ⟨by rfl, ?hypa1⟩) (by assumption) ?rpa1
    case hypa1 => intro w hSw; (try dsimp only at hSw); go_simp; first | done | with_reducible rfl
    case' rpa1 => try simp only [Act.put, List.setIfInBounds_toArray, List.set_cons_zero, List.set_cons_succ]
    refine tkL (some 28) 1 ?vpa2 rfl (by kernel_rfl) (by kernel_rfl) (fun _ _ _ h => h) (Or.inl ⟨by rfl, ?hypa2⟩) (by assumption) ?rpa2
    case hypa2 => intro w hSw; (try dsimp only at hSw); go_simp; first | done | with_reducible rfl
    case' rpa2 => try simp only [Act.put, List.setIfInBounds_toArray, List.set_cons_zero, List.set_cons_succ]
    refine tkL (some 29) 2 ?vpa3 rfl (by kernel_rfl) (by kernel_rfl) (fun _ _ _ h => h) (Or.inl ⟨by rfl, ?hypa3⟩) (by assumption) ?rpa3
    case hypa3 => intro w hSw; (try dsimp only at hSw); go_simp; first | done | with_reducible rfl
    case' rpa3 => try simp only [Act.put, List.setIfInBounds_toArray, List.set_cons_zero, List.set_cons_succ]
    refine tkL (some 30) 3 ?vpa4 rfl (by kernel_rfl) (by kernel_rfl) (fun _ _ _ h => h) (Or.inl ⟨by rfl, ?hypa4⟩) (by assumption) ?rpa4
    case hypa4 => intro w hSw; (try dsimp only at hSw); go_simp; first | done | with_reducible rfl
    case' rpa4 => try simp only [Act.put, List.setIfInBounds_toArray, List.set_cons_zero, List.set_cons_succ]
    refine tkL (some 31) 4 ?vpa5 rfl (by kernel_rfl) (by kernel_rfl) (fun _ _ _ h => h) (Or.inl ⟨by rfl, ?hypa5⟩) (by assumption) ?rpa5
    case hypa5 => intro w hSw; (try dsimp only at hSw); go_simp; first | done | with_reducible rfl
    case' rpa5 => try simp only [Act.put, List.setIfInBounds_toArray, List.set_cons_zero, List.set_cons_succ]
    refine tkL (some 32) 5 ?vpa6 rfl (by kernel_rfl) (by kernel_rfl) (fun _ _ _ h => h) (Or.inl ⟨by rfl, ?hypa6⟩) (by assumption) ?rpa6
    case hypa6 => intro w hSw; (try dsimp only at hSw); go_simp; first | done | with_reducible rfl
    case' rpa6 => try simp only [Act.put, List.setIfInBounds_toArray, List.set_cons_zero, List.set_cons_succ]
    refine tkL (some 33) 6 ?vpa7 rfl (by kernel_rfl) (by kernel_rfl) (fun _ _ _ h => h) (Or.inl ⟨by rfl, ?hypa7⟩) (by assumption) ?rpa7
    case hypa7 => intro w hSw; (try dsimp only at hSw); go_simp; first | done | with_reducible rfl
    case' rpa7 => try simp only [Act.put, List.setIfInBounds_toArray, List.set_cons_zero, List.set_cons_succ]
    refine tkL (some 34) 7 ?vpa8 rfl (by kernel_rfl) (by kernel_rfl) (fun _ _ _ h => h) (Or.inl ⟨by rfl, ?hypa8⟩) (by assumption) ?rpa8
    case hypa8 => intro w hSw; (try dsimp only at hSw); go_simp; first | done | with_reducible rfl
    case' rpa8 => try simp only [Act.put, List.setIfInBounds_toArray, List.set_cons_zero, List.set_cons_succ]
    refine tkL (some 35) 8 ?vpa9 rfl (by kernel_rfl) (by kernel_rfl) (fun _ _ _ h => h) (Or.inl ⟨by rfl, ?hypa9⟩) (by assumption) ?rpa9
    case hypa9 => intro w hSw; (try dsimp only at hSw); go_simp; first | done | with_reducible rfl
    case' rpa9 => try simp only [Act.put, List.setIfInBounds_toArray, List.set_cons_zero, List.set_cons_succ]
    refine tkL (some 36) 9 ?vpa10 rfl (by kernel_rfl) (by kernel_rfl) (fun _ _ _ h => h) (Or.inl ⟨by rfl, ?hypa10⟩) (by assumption) ?rpa10
    case hypa10 => intro w hSw; (try dsimp only at hSw); go_simp; first | done | with_reducible rfl
    case' rpa10 => try simp only [Act.put, List.setIfInBounds_toArray, List.set_cons_zero, List.set_cons_succ]
    refine tkL (some 37) 10 ?vpa11 rfl (by kernel_rfl) (by kernel_rfl) (fun _ _ _ h => h) (Or.inl ⟨by rfl, ?hypa11⟩) (by assumption) ?rpa11
    case hypa11 => intro w hSw; (try dsimp only at hSw); go_simp; first | done | with_reducible rfl
    case' rpa11 => try simp only [Act.put, List.setIfInBounds_toArray, List.set_cons_zero, List.set_cons_succ]
    refine oneL (i := 11) rfl (by kernel_rfl) (fun K9 hK => ?_)
    go_simp
    refine hK.out _ _ ⟨lvCell (lv_set _ _ _ _) x1 hgb, lvCell (lv_set _ _ _ _) x2 heb⟩ (fun hHpa12 => ?_)
    clear hK K9
    try simp only [Act.put, List.setIfInBounds_toArray, List.set_cons_zero, List.set_cons_succ]
    refine tkL (some 38) 12 ?vpa13 rfl (by kernel_rfl) (by kernel_rfl) (fun _ _ _ h => h) (Or.inl ⟨by rfl, ?hypa13⟩) (by assumption) ?rpa13
    case hypa13 => intro w hSw; (try dsimp only at hSw); go_simp; first | done | with_reducible rfl
    case' rpa13 => try simp only [Act.put, List.setIfInBounds_toArray, List.set_cons_zero, List.set_cons_succ]
    refine tkL (some 39) 13 ?vpa14 rfl (by kernel_rfl) (by kernel_rfl) (fun _ _ _ h => h) (Or.inl ⟨by rfl, ?hypa14⟩) (by assumption) ?rpa14
    case hypa14 => intro w hSw; (try dsimp only at hSw); go_simp; first | done | with_reducible rfl
    case' rpa14 => try simp only [Act.put, List.setIfInBounds_toArray, List.set_cons_zero, List.set_cons_succ]
    refine lastL (i := 14) rfl (by kernel_rfl) (by kernel_rfl) (fun K9 hK => ?_)
    go_simp
    refine hK.out _ _ ?_
    clear hK K9
    try simp only [Act.put, List.setIfInBounds_toArray, List.set_cons_zero, List.set_cons_succ]
    obtain ⟨X2, hX2⟩ : ∃ X2, (xd.setCell ⟨eb, 1, none⟩ (.pointer (some ⟨e0, 0, none⟩))).setCell ⟨eb, 2, none⟩ (.pointer (some ⟨er e0, 0, none⟩)) = X2 := ⟨_, rfl⟩
    rw [hX2] at HS5 HS6 HS7 ⊢
    clear hX2 x1 x2 s1 s2 s3 s4 hHeld
    have E3 : Ext X2 X2.drew := (Ext.refl X2).drew
    obtain ⟨x3, hx3⟩ : ∃ x3, X2.drew = x3 := ⟨_, rfl⟩
    rw [hx3] at E3
    have HX3 := Lib.hid hx3
    obtain ⟨⟨v1, t1⟩, t2, ⟨v3, t3⟩, t4, t5, t6⟩ := ring_push2 HH1.out HH2.out (HS6.out.ext E3) (HS5.out.ext E3) HNB.out
    obtain ⟨-, k1, k2, -⟩ := (HS5.out.ext E3).cells
    have HT5 := Lib.hid t5; have HT6 := Lib.hid t6; have HE3 := Lib.hid E3
    clear t5 t6 E3 hx3
    go_wp2_with (fail)
    refine wp_region_last (S := (fun W => W.cell? ⟨eb, 1, none⟩ = some (.pointer (some ⟨e0, 0, none⟩)) ∧ W.cell? ⟨eb, 2, none⟩ = some (.pointer (some ⟨er e0, 0, none⟩)))) (by kernel_rfl) (by rw [HX3.out]; exact ⟨k1, k2⟩) (fun hHeld => ?_)
    rw [HX3.out] at hHeld ⊢
    refine tkL (some 40) 0 ?vpb1 rfl (by kernel_rfl) (by kernel_rfl) (fun _ _ _ h => h) (Or.inl ⟨by rfl, ?hypb1⟩) (by assumption) ?rpb1
    case hypb1 => intro w hSw; (try dsimp only at hSw); go_simp; first | done | with_reducible rfl
    case' rpb1 => try simp only [Act.put, List.setIfInBounds_toArray, List.set_cons_zero, List.set_cons_succ]
    refine tkL (some 41) 1 ?vpb2 rfl (by kernel_rfl) (by kernel_rfl) (fun _ _ _ h => h) (Or.inl ⟨by rfl, ?hypb2⟩) (by assumption) ?rpb2
    case hypb2 => intro w hSw; (try dsimp only at hSw); go_simp; first | done | with_reducible rfl
    case' rpb2 => try simp only [Act.put, List.setIfInBounds_toArray, List.set_cons_zero, List.set_cons_succ]
    refine tkL (some 42) 2 ?vpb3 rfl (by kernel_rfl) (by kernel_rfl) (fun _ _ _ h => h) (Or.inl ⟨by rfl, ?hypb3⟩) (by assumption) ?rpb3
    case hypb3 => intro w hSw; (try dsimp only at hSw); go_simp; first | done | with_reducible rfl
    case' rpb3 => try simp only [Act.put, List.setIfInBounds_toArray, List.set_cons_zero, List.set_cons_succ]
    refine tkL (some 43) 3 ?vpb4 rfl (by kernel_rfl) (by kernel_rfl) (fun _ _ _ h => h) (Or.inl ⟨by rfl, ?hypb4⟩) (by assumption) ?rpb4
    case hypb4 => intro w hSw; (try dsimp only at hSw); go_simp; first | done | with_reducible rfl
    case' rpb4 => try simp only [Act.put, List.setIfInBounds_toArray, List.set_cons_zero, List.set_cons_succ]
    refine tkL (some 44) 4 ?vpb5 rfl (by kernel_rfl) (by kernel_rfl) (fun _ _ _ h => h) (Or.inl ⟨by rfl, ?hypb5⟩) (by assumption) ?rpb5
    case hypb5 => intro w hSw; (try dsimp only at hSw); go_simp; first | done | with_reducible rfl
    case' rpb5 => try simp only [Act.put, List.setIfInBounds_toArray, List.set_cons_zero, List.set_cons_succ]
    refine tkL (some 45) 5 ?vpb6 rfl (by kernel_rfl) (by kernel_rfl) (fun _ _ _ h => h) (Or.inl ⟨by rfl, ?hypb6⟩) (by assumption) ?rpb6
    case hypb6 => intro w hSw; (try dsimp only at hSw); go_simp; first | done | with_reducible rfl
    case' rpb6 => try simp only [Act.put, List.setIfInBounds_toArray, List.set_cons_zero, List.set_cons_succ]
    refine tkL (some 46) 6 ?vpb7 rfl (by kernel_rfl) (by kernel_rfl) (fun _ _ _ h => h) (Or.inl ⟨by rfl, ?hypb7⟩) (by assumption) ?rpb7
    case hypb7 => intro w hSw; (try dsimp only at hSw); go_simp; first | done | with_reducible rfl
    case' rpb7 => try simp only [Act.put, List.setIfInBounds_toArray, List.set_cons_zero, List.set_cons_succ]
    refine tkL (some 47) 7 ?vpb8 rfl (by kernel_rfl) (by kernel_rfl) (fun _ _ _ h => h) (Or.inl ⟨by rfl, ?hypb8⟩) (by assumption) ?rpb8
    case hypb8 => intro w hSw; (try dsimp only at hSw); go_simp; first | done | with_reducible rfl
    case' rpb8 => try simp only [Act.put, List.setIfInBounds_toArray, List.set_cons_zero, List.set_cons_succ]
    refine tkL (some 48) 8 ?vpb9 rfl (by kernel_rfl) (by kernel_rfl) (fun _ _ _ h => h) (Or.inl ⟨by rfl, ?hypb9⟩) (by assumption) ?rpb9
    case hypb9 => intro w hSw; (try dsimp only at hSw); go_simp; first | done | with_reducible rfl
    case' rpb9 => try simp only [Act.put, List.setIfInBounds_toArray, List.set_cons_zero, List.set_cons_succ]
    refine tkL (some 49) 9 ?vpb10 rfl (by kernel_rfl) (by kernel_rfl) (fun _ _ _ h => h) (Or.inl ⟨by rfl, ?hypb10⟩) (by assumption) ?rpb10
    case hypb10 => intro w hSw; (try dsimp only at hSw); go_simp; first | done | with_reducible rfl
    case' rpb10 => try simp only [Act.put, List.setIfInBounds_toArray, List.set_cons_zero, List.set_cons_succ]
    refine tkL (some 50) 10 ?vpb11 rfl (by kernel_rfl) (by kernel_rfl) (fun _ _ _ h => h) (Or.inl ⟨by rfl, ?hypb11⟩) (by assumption) ?rpb11
    case hypb11 => intro w hSw; (try dsimp only at hSw); go_simp; first | done | with_reducible rfl
    case' rpb11 => try simp only [Act.put, List.setIfInBounds_toArray, List.set_cons_zero, List.set_cons_succ]
    refine tkL (some 51) 11 ?vpb12 rfl (by kernel_rfl) (by kernel_rfl) (fun _ _ _ h => h) (Or.inl ⟨by rfl, ?hypb12⟩) (by assumption) ?rpb12
    case hypb12 => intro w hSw; (try dsimp only at hSw); go_simp; first | done | with_reducible rfl
    case' rpb12 => try simp only [Act.put, List.setIfInBounds_toArray, List.set_cons_zero, List.set_cons_succ]
    refine oneL (i := 12) rfl (by kernel_rfl) (fun K9 hK => ?_)
    go_simp
    refine hK.out _ _ ⟨lvCell (lv_set _ _ _ _) k1 heb2, lvCell (lv_set _ _ _ _) k2 heb2⟩ (fun hHpb13 => ?_)
    clear hK K9
    try simp only [Act.put, List.setIfInBounds_toArray, List.set_cons_zero, List.set_cons_succ]
    refine tkL (some 52) 13 ?vpb14 rfl (by kernel_rfl) (by kernel_rfl) (fun _ _ _ h => h) (Or.inl ⟨by rfl, ?hypb14⟩) (by assumption) ?rpb14
    case hypb14 => intro w hSw; (try dsimp only at hSw); go_simp; first | done | with_reducible rfl
    case' rpb14 => try simp only [Act.put, List.setIfInBounds_toArray, List.set_cons_zero, List.set_cons_succ]
    refine tkL (some 53) 14 ?vpb15 rfl (by kernel_rfl) (by kernel_rfl) (fun _ _ _ h => h) (Or.inl ⟨by rfl, ?hypb15⟩) (by assumption) ?rpb15
    case hypb15 => intro w hSw; (try dsimp only at hSw); go_simp; first | done | with_reducible rfl
    case' rpb15 => try simp only [Act.put, List.setIfInBounds_toArray, List.set_cons_zero, List.set_cons_succ]
    refine lastL (i := 15) rfl (by kernel_rfl) (by kernel_rfl) (fun K9 hK => ?_)
    go_simp
    refine hK.out _ _ ?_
    clear hK K9
    try simp only [Act.put, List.setIfInBounds_toArray, List.set_cons_zero, List.set_cons_succ]
    obtain ⟨X4, hX4⟩ : ∃ X4, (x3.setCell ⟨e0, 2, none⟩ (.pointer (some ⟨eb, 0, none⟩))).setCell ⟨er e0, 1, none⟩ (.pointer (some ⟨eb, 0, none⟩)) = X4 := ⟨_, rfl⟩
    rw [hX4] at HT5 HT6 ⊢
    clear hX4 t1 t2 t3 t4 k1 k2 hHeld
    have HLX : Hid (Lv (fun k => k = eb ∨ k ∈ e0 :: M.map (fun x => x.1)) X X4) := Lib.hid ((((HEX.out.lv (D := fun _ => False)).trans HS7.out (E := fun k => k = eb) (fun _ _ h => h.elim) (fun _ _ h => h)).trans (HE3.out.lv (D := fun _ => False)) (fun _ _ h => h) (fun _ _ h => h.elim)).trans HT6.out (fun _ _ h => .inl h) (fun _ _ h => .inr h))
    have HR4 : Hid (RecS X4 mb e0 (n + 1) ((eb, c) :: M)) := Lib.hid ⟨HT5.out, by rw [HENT.out, HLEN.out]; exact (HMX.out.lv HLX.out (fun h => by rcases h with h | h; exact HMNB.out.1 h; exact HMNB.out.2 h)).mono (by omega), HMND.out⟩
    have HL4 : Hid (Lv (fun k => k ∈ mb :: e0 :: (l ++ (eb, c) :: r).map (fun x => x.1)) w X4) := Lib.hid (((HE0.out.lv (D := fun _ => False)).trans HLV.out (E := fun k => k ∈ mb :: e0 :: (l ++ (eb, c) :: r).map (fun x => x.1)) (fun _ _ h => h.elim) (fun k _ h => List.mem_cons_of_mem _ (HSUB.out k h))).trans HLX.out (fun _ _ h => h) (fun k _ h => by
      rcases h with h | h
      · rw [h]; exact List.mem_cons_of_mem _ (List.mem_cons_of_mem _ HEBL.out)
      · exact List.mem_cons_of_mem _ (HSUB.out k h)))
    go_wp2
    go_ret
    exact ⟨eb, by rw [HDEC.out]; rfl, by rw [HFL.out]; exact HR4.out, .inl HEBL.out, HL4.out⟩
  · have hF := entF_none.2 hin
    rw [hF] at hlk
    dsimp only [Option.getD_none, Option.isSome_none] at hlk
    have HDEC : Hid (decide (c ∈ L.map (fun x => x.2)) = false) := Lib.hid (decide_eq_false hin)
    have HFL := Lib.hid (filt_none hin)
    obtain ⟨eb, heb0⟩ : ∃ eb, g0 + 2 = eb := ⟨_, rfl⟩
    have hF2 : ((entF L) c).isSome = false := by rw [hF]; rfl
    have HF2 := Lib.hid hF2
    obtain ⟨W1, hW1⟩ : ∃ W1, W0.alloc (.cells #[.int .i64 c, .pointer none, .pointer none] 105) = W1 := ⟨_, rfl⟩
    have E1 : Ext W0 W1 := by rw [← hW1]; exact (Ext.refl W0).alloc _
    have HE1 := Lib.hid E1
    have B2 : W1.heap[eb]? = some (.cells #[.int .i64 c, .pointer none, .pointer none] 105 (0, 0)) := by rw [← hW1]; exact blk_at (by rw [hs0, heb0])
    have HB2 := Lib.hid B2
    have HM1 := Lib.hid (hmap.kept (E1.grownBy none) (by simp)); have HR1 := Lib.hid (hring.ext E1)
    have m0 := E1.keep r0; have m1 := E1.keep r1; have m2 := E1.keep u0
    clear hR hR0 hring hmap hnd hi hltw hF hin E0 B0 B1 hF2 E1 B2
    go_enter Try.func37, Try.ntmps37
    go_wp2_with (first | (at_mapUpdate; refine upd_Ic _ rfl _ _ _ _ _ rfl undMapE rfl HM1.out (by unfold maxLen; omega) rfl rfl (wfI hc.1 hc.2) ?_; intro X hmX hgX) | fail)
    rw [HF2.out, if_neg (by simp)] at hmX
    have hlX := grown_lv hgX
    have hgl : ∀ k, k ∈ e0 :: L.map (fun x => x.1) → k < g0 := fun k hk => HLT.out k (List.mem_cons_of_mem _ hk)
    have hmg := HLT.out mb (by simp)
    have HRING : Hid (RingW X e0 L) := Lib.hid (HR1.out.lv hlX (fun k hk e => HNE.out (by rw [← e]; exact hk)))
    have HEB := Lib.hid (hlX.heap HB2.out (fun e => by omega))
    have HBX := Lib.hid (hlX.heap (HE1.out.blk HB0.out) (fun e => by omega))
    have HNB : Hid (eb ∉ e0 :: L.map (fun x => x.1)) := Lib.hid (fun h => by have := hgl _ h; omega)
    have HMNB : Hid (mb ≠ eb) := Lib.hid (by omega)
    have HMX : Hid (IMc X mb (n + 1) (entF ((eb, c) :: L)) (L.length + 1)) := Lib.hid (by rw [entF_cons]; exact hmX)
    have HLV := Lib.hid hlX
    have HWE : Hid (w.heap.size ≤ eb) := Lib.hid (by omega)
    clear hmX hgX hlX hgl hmg r0 r1 u0 u1 hlk hW0 hW1 m0 m1 m2
    obtain ⟨la, er, h1, h2, h3⟩ := HRING.out
    have EX : Ext X X.drew := (Ext.refl X).drew
    obtain ⟨xd, hxd⟩ : ∃ xd, X.drew = xd := ⟨_, rfl⟩
    rw [hxd] at EX
    have HXD := Lib.hid hxd
    have h3d := h3.ext EX; have hbd := EX.blk HBX.out; have hed := EX.blk HEB.out
    obtain ⟨-, x1, -, -⟩ := blk2 hbd
    obtain ⟨-, -, x2, -⟩ := (h3d (e0, 0) (List.mem_cons_self ..)).cells
    dsimp only at x2
    obtain ⟨s1, s2, s3, s4, s5, s6, s7⟩ := ring_push1 h3d hed HNB.out e0 (er e0)
    have hgb : ¬ (g0 = eb) := fun e => by subst e; rw [hed] at hbd; simp at hbd
    have heb : ¬ (e0 = eb) := fun e => HNB.out (by rw [← e]; simp)
    have heb2 : ¬ (eb = e0) := fun e => heb e.symm
    have HS5 := Lib.hid s5; have HS6 := Lib.hid s6; have HS7 := Lib.hid s7; have HH1 := Lib.hid h1; have HH2 := Lib.hid h2; have HEX := Lib.hid EX
    clear h1 h2 h3 h3d hbd hed s5 s6 s7 hxd EX
    go_wp2_with (fail)
    refine wp_region_last (S := (fun W => W.cell? ⟨g0, 1, none⟩ = some (.pointer (some ⟨e0, 0, none⟩)) ∧ W.cell? ⟨e0, 2, none⟩ = some (.pointer (some ⟨er e0, 0, none⟩)))) (by kernel_rfl) (by rw [HXD.out]; exact ⟨x1, x2⟩) (fun hHeld => ?_)
    rw [HXD.out] at hHeld ⊢
    refine tkL (some 27) 0 ?vqa1 rfl (by kernel_rfl) (by kernel_rfl) (fun _ _ _ h => h) (Or.inl ⟨by rfl, ?hyqa1⟩) (by assumption) ?rqa1
    case hyqa1 => intro w hSw; (try dsimp only at hSw); go_simp; first | done | with_reducible rfl
    case' rqa1 => try simp only [Act.put, List.setIfInBounds_toArray, List.set_cons_zero, List.set_cons_succ]
    refine tkL (some 28) 1 ?vqa2 rfl (by kernel_rfl) (by kernel_rfl) (fun _ _ _ h => h) (Or.inl ⟨by rfl, ?hyqa2⟩) (by assumption) ?rqa2
    case hyqa2 => intro w hSw; (try dsimp only at hSw); go_simp; first | done | with_reducible rfl
    case' rqa2 => try simp only [Act.put, List.setIfInBounds_toArray, List.set_cons_zero, List.set_cons_succ]
    refine tkL (some 29) 2 ?vqa3 rfl (by kernel_rfl) (by kernel_rfl) (fun _ _ _ h => h) (Or.inl ⟨by rfl, ?hyqa3⟩) (by assumption) ?rqa3
    case hyqa3 => intro w hSw; (try dsimp only at hSw); go_simp; first | done | with_reducible rfl
    case' rqa3 => try simp only [Act.put, List.setIfInBounds_toArray, List.set_cons_zero, List.set_cons_succ]
    refine tkL (some 30) 3 ?vqa4 rfl (by kernel_rfl) (by kernel_rfl) (fun _ _ _ h => h) (Or.inl ⟨by rfl, ?hyqa4⟩) (by assumption) ?rqa4
    case hyqa4 => intro w hSw; (try dsimp only at hSw); go_simp; first | done | with_reducible rfl
    case' rqa4 => try simp only [Act.put, List.setIfInBounds_toArray, List.set_cons_zero, List.set_cons_succ]
    refine tkL (some 31) 4 ?vqa5 rfl (by kernel_rfl) (by kernel_rfl) (fun _ _ _ h => h) (Or.inl ⟨by rfl, ?hyqa5⟩) (by assumption) ?rqa5
    case hyqa5 => intro w hSw; (try dsimp only at hSw); go_simp; first | done | with_reducible rfl
    case' rqa5 => try simp only [Act.put, List.setIfInBounds_toArray, List.set_cons_zero, List.set_cons_succ]
    refine tkL (some 32) 5 ?vqa6 rfl (by kernel_rfl) (by kernel_rfl) (fun _ _ _ h => h) (Or.inl ⟨by rfl, ?hyqa6⟩) (by assumption) ?rqa6
    case hyqa6 => intro w hSw; (try dsimp only at hSw); go_simp; first | done | with_reducible rfl
    case' rqa6 => try simp only [Act.put, List.setIfInBounds_toArray, List.set_cons_zero, List.set_cons_succ]
    refine tkL (some 33) 6 ?vqa7 rfl (by kernel_rfl) (by kernel_rfl) (fun _ _ _ h => h) (Or.inl ⟨by rfl, ?hyqa7⟩) (by assumption) ?rqa7
    case hyqa7 => intro w hSw; (try dsimp only at hSw); go_simp; first | done | with_reducible rfl
    case' rqa7 => try simp only [Act.put, List.setIfInBounds_toArray, List.set_cons_zero, List.set_cons_succ]
    refine tkL (some 34) 7 ?vqa8 rfl (by kernel_rfl) (by kernel_rfl) (fun _ _ _ h => h) (Or.inl ⟨by rfl, ?hyqa8⟩) (by assumption) ?rqa8
    case hyqa8 => intro w hSw; (try dsimp only at hSw); go_simp; first | done | with_reducible rfl
    case' rqa8 => try simp only [Act.put, List.setIfInBounds_toArray, List.set_cons_zero, List.set_cons_succ]
    refine tkL (some 35) 8 ?vqa9 rfl (by kernel_rfl) (by kernel_rfl) (fun _ _ _ h => h) (Or.inl ⟨by rfl, ?hyqa9⟩) (by assumption) ?rqa9
    case hyqa9 => intro w hSw; (try dsimp only at hSw); go_simp; first | done | with_reducible rfl
    case' rqa9 => try simp only [Act.put, List.setIfInBounds_toArray, List.set_cons_zero, List.set_cons_succ]
    refine tkL (some 36) 9 ?vqa10 rfl (by kernel_rfl) (by kernel_rfl) (fun _ _ _ h => h) (Or.inl ⟨by rfl, ?hyqa10⟩) (by assumption) ?rqa10
    case hyqa10 => intro w hSw; (try dsimp only at hSw); go_simp; first | done | with_reducible rfl
    case' rqa10 => try simp only [Act.put, List.setIfInBounds_toArray, List.set_cons_zero, List.set_cons_succ]
    refine tkL (some 37) 10 ?vqa11 rfl (by kernel_rfl) (by kernel_rfl) (fun _ _ _ h => h) (Or.inl ⟨by rfl, ?hyqa11⟩) (by assumption) ?rqa11
    case hyqa11 => intro w hSw; (try dsimp only at hSw); go_simp; first | done | with_reducible rfl
    case' rqa11 => try simp only [Act.put, List.setIfInBounds_toArray, List.set_cons_zero, List.set_cons_succ]
    refine oneL (i := 11) rfl (by kernel_rfl) (fun K9 hK => ?_)
    go_simp
    refine hK.out _ _ ⟨lvCell (lv_set _ _ _ _) x1 hgb, lvCell (lv_set _ _ _ _) x2 heb⟩ (fun hHqa12 => ?_)
    clear hK K9
    try simp only [Act.put, List.setIfInBounds_toArray, List.set_cons_zero, List.set_cons_succ]
    refine tkL (some 38) 12 ?vqa13 rfl (by kernel_rfl) (by kernel_rfl) (fun _ _ _ h => h) (Or.inl ⟨by rfl, ?hyqa13⟩) (by assumption) ?rqa13
    case hyqa13 => intro w hSw; (try dsimp only at hSw); go_simp; first | done | with_reducible rfl
    case' rqa13 => try simp only [Act.put, List.setIfInBounds_toArray, List.set_cons_zero, List.set_cons_succ]
    refine tkL (some 39) 13 ?vqa14 rfl (by kernel_rfl) (by kernel_rfl) (fun _ _ _ h => h) (Or.inl ⟨by rfl, ?hyqa14⟩) (by assumption) ?rqa14
    case hyqa14 => intro w hSw; (try dsimp only at hSw); go_simp; first | done | with_reducible rfl
    case' rqa14 => try simp only [Act.put, List.setIfInBounds_toArray, List.set_cons_zero, List.set_cons_succ]
    refine lastL (i := 14) rfl (by kernel_rfl) (by kernel_rfl) (fun K9 hK => ?_)
    go_simp
    refine hK.out _ _ ?_
    clear hK K9
    try simp only [Act.put, List.setIfInBounds_toArray, List.set_cons_zero, List.set_cons_succ]
    obtain ⟨X2, hX2⟩ : ∃ X2, (xd.setCell ⟨eb, 1, none⟩ (.pointer (some ⟨e0, 0, none⟩))).setCell ⟨eb, 2, none⟩ (.pointer (some ⟨er e0, 0, none⟩)) = X2 := ⟨_, rfl⟩
    rw [hX2] at HS5 HS6 HS7 ⊢
    clear hX2 x1 x2 s1 s2 s3 s4 hHeld
    have E3 : Ext X2 X2.drew := (Ext.refl X2).drew
    obtain ⟨x3, hx3⟩ : ∃ x3, X2.drew = x3 := ⟨_, rfl⟩
    rw [hx3] at E3
    have HX3 := Lib.hid hx3
    obtain ⟨⟨v1, t1⟩, t2, ⟨v3, t3⟩, t4, t5, t6⟩ := ring_push2 HH1.out HH2.out (HS6.out.ext E3) (HS5.out.ext E3) HNB.out
    obtain ⟨-, k1, k2, -⟩ := (HS5.out.ext E3).cells
    have HT5 := Lib.hid t5; have HT6 := Lib.hid t6; have HE3 := Lib.hid E3
    clear t5 t6 E3 hx3
    go_wp2_with (fail)
    refine wp_region_last (S := (fun W => W.cell? ⟨eb, 1, none⟩ = some (.pointer (some ⟨e0, 0, none⟩)) ∧ W.cell? ⟨eb, 2, none⟩ = some (.pointer (some ⟨er e0, 0, none⟩)))) (by kernel_rfl) (by rw [HX3.out]; exact ⟨k1, k2⟩) (fun hHeld => ?_)
    rw [HX3.out] at hHeld ⊢
    refine tkL (some 40) 0 ?vqb1 rfl (by kernel_rfl) (by kernel_rfl) (fun _ _ _ h => h) (Or.inl ⟨by rfl, ?hyqb1⟩) (by assumption) ?rqb1
    case hyqb1 => intro w hSw; (try dsimp only at hSw); go_simp; first | done | with_reducible rfl
    case' rqb1 => try simp only [Act.put, List.setIfInBounds_toArray, List.set_cons_zero, List.set_cons_succ]
    refine tkL (some 41) 1 ?vqb2 rfl (by kernel_rfl) (by kernel_rfl) (fun _ _ _ h => h) (Or.inl ⟨by rfl, ?hyqb2⟩) (by assumption) ?rqb2
    case hyqb2 => intro w hSw; (try dsimp only at hSw); go_simp; first | done | with_reducible rfl
    case' rqb2 => try simp only [Act.put, List.setIfInBounds_toArray, List.set_cons_zero, List.set_cons_succ]
    refine tkL (some 42) 2 ?vqb3 rfl (by kernel_rfl) (by kernel_rfl) (fun _ _ _ h => h) (Or.inl ⟨by rfl, ?hyqb3⟩) (by assumption) ?rqb3
    case hyqb3 => intro w hSw; (try dsimp only at hSw); go_simp; first | done | with_reducible rfl
    case' rqb3 => try simp only [Act.put, List.setIfInBounds_toArray, List.set_cons_zero, List.set_cons_succ]
    refine tkL (some 43) 3 ?vqb4 rfl (by kernel_rfl) (by kernel_rfl) (fun _ _ _ h => h) (Or.inl ⟨by rfl, ?hyqb4⟩) (by assumption) ?rqb4
    case hyqb4 => intro w hSw; (try dsimp only at hSw); go_simp; first | done | with_reducible rfl
    case' rqb4 => try simp only [Act.put, List.setIfInBounds_toArray, List.set_cons_zero, List.set_cons_succ]
    refine tkL (some 44) 4 ?vqb5 rfl (by kernel_rfl) (by kernel_rfl) (fun _ _ _ h => h) (Or.inl ⟨by rfl, ?hyqb5⟩) (by assumption) ?rqb5
    case hyqb5 => intro w hSw; (try dsimp only at hSw); go_simp; first | done | with_reducible rfl
    case' rqb5 => try simp only [Act.put, List.setIfInBounds_toArray, List.set_cons_zero, List.set_cons_succ]
    refine tkL (some 45) 5 ?vqb6 rfl (by kernel_rfl) (by kernel_rfl) (fun _ _ _ h => h) (Or.inl ⟨by rfl, ?hyqb6⟩) (by assumption) ?rqb6
    case hyqb6 => intro w hSw; (try dsimp only at hSw); go_simp; first | done | with_reducible rfl
    case' rqb6 => try simp only [Act.put, List.setIfInBounds_toArray, List.set_cons_zero, List.set_cons_succ]
    refine tkL (some 46) 6 ?vqb7 rfl (by kernel_rfl) (by kernel_rfl) (fun _ _ _ h => h) (Or.inl ⟨by rfl, ?hyqb7⟩) (by assumption) ?rqb7
    case hyqb7 => intro w hSw; (try dsimp only at hSw); go_simp; first | done | with_reducible rfl
    case' rqb7 => try simp only [Act.put, List.setIfInBounds_toArray, List.set_cons_zero, List.set_cons_succ]
    refine tkL (some 47) 7 ?vqb8 rfl (by kernel_rfl) (by kernel_rfl) (fun _ _ _ h => h) (Or.inl ⟨by rfl, ?hyqb8⟩) (by assumption) ?rqb8
    case hyqb8 => intro w hSw; (try dsimp only at hSw); go_simp; first | done | with_reducible rfl
    case' rqb8 => try simp only [Act.put, List.setIfInBounds_toArray, List.set_cons_zero, List.set_cons_succ]
    refine tkL (some 48) 8 ?vqb9 rfl (by kernel_rfl) (by kernel_rfl) (fun _ _ _ h => h) (Or.inl ⟨by rfl, ?hyqb9⟩) (by assumption) ?rqb9
    case hyqb9 => intro w hSw; (try dsimp only at hSw); go_simp; first | done | with_reducible rfl
    case' rqb9 => try simp only [Act.put, List.setIfInBounds_toArray, List.set_cons_zero, List.set_cons_succ]
    refine tkL (some 49) 9 ?vqb10 rfl (by kernel_rfl) (by kernel_rfl) (fun _ _ _ h => h) (Or.inl ⟨by rfl, ?hyqb10⟩) (by assumption) ?rqb10
    case hyqb10 => intro w hSw; (try dsimp only at hSw); go_simp; first | done | with_reducible rfl
    case' rqb10 => try simp only [Act.put, List.setIfInBounds_toArray, List.set_cons_zero, List.set_cons_succ]
    refine tkL (some 50) 10 ?vqb11 rfl (by kernel_rfl) (by kernel_rfl) (fun _ _ _ h => h) (Or.inl ⟨by rfl, ?hyqb11⟩) (by assumption) ?rqb11
    case hyqb11 => intro w hSw; (try dsimp only at hSw); go_simp; first | done | with_reducible rfl
    case' rqb11 => try simp only [Act.put, List.setIfInBounds_toArray, List.set_cons_zero, List.set_cons_succ]
    refine tkL (some 51) 11 ?vqb12 rfl (by kernel_rfl) (by kernel_rfl) (fun _ _ _ h => h) (Or.inl ⟨by rfl, ?hyqb12⟩) (by assumption) ?rqb12
    case hyqb12 => intro w hSw; (try dsimp only at hSw); go_simp; first | done | with_reducible rfl
    case' rqb12 => try simp only [Act.put, List.setIfInBounds_toArray, List.set_cons_zero, List.set_cons_succ]
    refine oneL (i := 12) rfl (by kernel_rfl) (fun K9 hK => ?_)
    go_simp
    refine hK.out _ _ ⟨lvCell (lv_set _ _ _ _) k1 heb2, lvCell (lv_set _ _ _ _) k2 heb2⟩ (fun hHqb13 => ?_)
    clear hK K9
    try simp only [Act.put, List.setIfInBounds_toArray, List.set_cons_zero, List.set_cons_succ]
    refine tkL (some 52) 13 ?vqb14 rfl (by kernel_rfl) (by kernel_rfl) (fun _ _ _ h => h) (Or.inl ⟨by rfl, ?hyqb14⟩) (by assumption) ?rqb14
    case hyqb14 => intro w hSw; (try dsimp only at hSw); go_simp; first | done | with_reducible rfl
    case' rqb14 => try simp only [Act.put, List.setIfInBounds_toArray, List.set_cons_zero, List.set_cons_succ]
    refine tkL (some 53) 14 ?vqb15 rfl (by kernel_rfl) (by kernel_rfl) (fun _ _ _ h => h) (Or.inl ⟨by rfl, ?hyqb15⟩) (by assumption) ?rqb15
    case hyqb15 => intro w hSw; (try dsimp only at hSw); go_simp; first | done | with_reducible rfl
    case' rqb15 => try simp only [Act.put, List.setIfInBounds_toArray, List.set_cons_zero, List.set_cons_succ]
    refine lastL (i := 15) rfl (by kernel_rfl) (by kernel_rfl) (fun K9 hK => ?_)
    go_simp
    refine hK.out _ _ ?_
    clear hK K9
    try simp only [Act.put, List.setIfInBounds_toArray, List.set_cons_zero, List.set_cons_succ]
    obtain ⟨X4, hX4⟩ : ∃ X4, (x3.setCell ⟨e0, 2, none⟩ (.pointer (some ⟨eb, 0, none⟩))).setCell ⟨er e0, 1, none⟩ (.pointer (some ⟨eb, 0, none⟩)) = X4 := ⟨_, rfl⟩
    rw [hX4] at HT5 HT6 ⊢
    clear hX4 t1 t2 t3 t4 k1 k2 hHeld
    have HLX : Hid (Lv (fun k => k = eb ∨ k ∈ e0 :: L.map (fun x => x.1)) X X4) := Lib.hid ((((HEX.out.lv (D := fun _ => False)).trans HS7.out (E := fun k => k = eb) (fun _ _ h => h.elim) (fun _ _ h => h)).trans (HE3.out.lv (D := fun _ => False)) (fun _ _ h => h) (fun _ _ h => h.elim)).trans HT6.out (fun _ _ h => .inl h) (fun _ _ h => .inr h))
    have HNC : Hid (c ∉ L.map (fun x => x.2)) := Lib.hid (of_decide_eq_false HDEC.out)
    have HR4 : Hid (RecS X4 mb e0 (n + 1) ((eb, c) :: L)) := Lib.hid ⟨HT5.out, HMX.out.lv HLX.out (fun h => by rcases h with h | h; exact HMNB.out h; exact HNE.out h), by rw [List.map_cons, List.nodup_cons]; exact ⟨HNC.out, HND.out⟩, fun x hx => by rcases List.mem_cons.1 hx with rfl | hx; exact hc; exact HI.out x hx⟩
    have HL4 : Hid (Lv (fun k => k ∈ mb :: e0 :: L.map (fun x => x.1)) w X4) := Lib.hid ((((HE0.out.trans HE1.out).lv (D := fun _ => False)).trans HLV.out (E := fun k => k ∈ mb :: e0 :: L.map (fun x => x.1)) (fun _ _ h => h.elim) (fun k _ h => by rw [h]; simp)).trans HLX.out (fun _ _ h => h) (fun k hk h => by
      rcases h with h | h
      · have := HWE.out; omega
      · exact List.mem_cons_of_mem _ h))
    go_wp2
    go_ret
    exact ⟨eb, by rw [HDEC.out]; rfl, by rw [HFL.out]; exact HR4.out, .inr HWE.out, HL4.out⟩
end Go.Proofs.Ytggpjapmhakklaa
