/- The texts Q2b, joined. No statement is proved here. -/
import Derived.Test.YtccibfldadflkaaQT18
/- Draws: a copy of a nest, its sides apart. -/
namespace Go.Proofs.Ytccibfldadflkaa
open Go.RowKit

def blks (vs : List Value) : List Nat := vs.flatMap (fun u => u.ownBlock.toList)
/-- A nest of the call's own whose sides lie in blocks apart. -/
def LoopsSep (B : Nat) (w : World) (v : Value) (ls : List Lp) : Prop :=
  ∃ vs, w.ownsRow B 75 2 v ls.length vs ∧ (∀ i x, ls[i]? = some x → ∃ u0 u1, vs[i * 2]? = some u0 ∧ vs[i * 2 + 1]? = some u1 ∧ LoopO B w u0 u1 x) ∧ (blks vs).Nodup
theorem LoopO.ext' {B : Nat} {w w' : World} {u0 u1 : Value} {x : Lp} (h : LoopO B w u0 u1 x) (hE : Ext w w') : LoopO B w' u0 u1 x := ⟨AffsOwn.ext h.1 hE, AffsOwn.ext h.2 hE⟩
theorem LoopsSep.own {B : Nat} {w : World} {v : Value} {ls : List Lp} (h : LoopsSep B w v ls) : LoopsOwn B w v ls := by
  obtain ⟨vs, ho, he, -⟩ := h; exact ⟨vs, ho, he⟩
theorem LoopsSep.ext {B : Nat} {w w' : World} {v : Value} {ls : List Lp} (h : LoopsSep B w v ls) (hE : Ext w w') : LoopsSep B w' v ls := by
  obtain ⟨vs, ho, he, hn⟩ := h
  exact ⟨vs, ownsRow_ext ho hE, fun i x hi => by obtain ⟨u0, u1, h0, h1, h2⟩ := he i x hi; exact ⟨u0, u1, h0, h1, h2.ext' hE⟩, hn⟩
theorem LoopsSep.made {B g c : Nat} {w : World} (h : w.ownsRow B 75 2 (.slice (some ⟨g, 0, none⟩) 0 c) 0 []) : LoopsSep B w (.slice (some ⟨g, 0, none⟩) 0 c) [] := ⟨[], h, fun i x hi => by simp at hi, by simp [blks]⟩
theorem blks_lt {B : Nat} {w : World} {ls : List Lp} {vs : List Value} (hl : vs.length = ls.length * 2) (he : ∀ i x, ls[i]? = some x → ∃ u0 u1, vs[i * 2]? = some u0 ∧ vs[i * 2 + 1]? = some u1 ∧ LoopO B w u0 u1 x) : ∀ b ∈ blks vs, b < w.heap.size := by
  intro b hb
  obtain ⟨u, hu, hub⟩ := List.mem_flatMap.1 hb
  rw [Option.mem_toList] at hub
  obtain ⟨j, hj⟩ := List.mem_iff_getElem?.1 hu
  have hjl : j < vs.length := (List.getElem?_eq_some_iff.1 hj).1
  obtain ⟨x, hx⟩ := get_some (xs := ls) (k := j / 2) (by omega)
  obtain ⟨u0, u1, h0, h1, ⟨vs0, ho0, -⟩, ⟨vs1, ho1, -⟩⟩ := he (j / 2) x hx
  rcases Nat.mod_two_eq_zero_or_one j with e | e
  · rw [show j / 2 * 2 = j by omega, hj] at h0
    cases h0
    exact (ho0.lt b hub).2
  · rw [show j / 2 * 2 + 1 = j by omega, hj] at h1
    cases h1
    exact (ho1.lt b hub).2
theorem LoopsSep.push {B n N M : Nat} {w w' : World} {v v' u0 u1 : Value} {xs : List Lp} {x : Lp} {vs : List Value} (hn : xs.length = n)
    (he : ∀ i y, xs[i]? = some y → ∃ t0 t1, vs[i * 2]? = some t0 ∧ vs[i * 2 + 1]? = some t1 ∧ LoopO B w t0 t1 y) (hvl : vs.length = n * 2)
    (ho' : w'.ownsRow B 75 2 v' (n + 1) (vs ++ [u0, u1])) (hg : w.grownBy w' v.ownBlock) (ht : Tag w v.ownBlock 75) (hx : LoopO B w u0 u1 x)
    (hnd : (blks vs).Nodup) (hN : ∀ b ∈ blks vs, b < N) (hNM : N ≤ M) (h0 : ∀ b, u0.ownBlock = some b → N ≤ b ∧ b < M) (h1 : ∀ b, u1.ownBlock = some b → M ≤ b) : LoopsSep B w' v' (xs ++ [x]) := by
  refine ⟨vs ++ [u0, u1], by rw [List.length_append, hn]; exact ho', fun i y hi => ?_, ?_⟩
  · rcases Nat.lt_or_ge i xs.length with hlt | hge
    · rw [List.getElem?_append_left hlt] at hi
      obtain ⟨t0, t1, g0, g1, g2⟩ := he i y hi
      exact ⟨t0, t1, by rw [List.getElem?_append_left (by omega)]; exact g0, by rw [List.getElem?_append_left (by omega)]; exact g1, LoopO.grow g2 hg ht⟩
    · rw [List.getElem?_append_right hge] at hi
      have hi0 : i - xs.length = 0 := by
        rcases Nat.eq_zero_or_pos (i - xs.length) with h | h
        · exact h
        · rw [List.getElem?_eq_none (by simp; omega)] at hi; cases hi
      rw [hi0] at hi
      simp at hi
      subst hi
      have hin : i = n := by omega
      subst hin
      exact ⟨u0, u1, by rw [List.getElem?_append_right (by omega)]; simp [hvl], by rw [List.getElem?_append_right (by omega), hvl]; simp [show i * 2 + 1 - i * 2 = 1 by omega], LoopO.grow hx hg ht⟩
  · have e : blks (vs ++ [u0, u1]) = blks vs ++ (u0.ownBlock.toList ++ u1.ownBlock.toList) := by simp [blks]
    rw [e]
    refine List.nodup_append.2 ⟨hnd, List.nodup_append.2 ⟨?_, ?_, ?_⟩, ?_⟩
    · cases u0.ownBlock <;> simp
    · cases u1.ownBlock <;> simp
    · intro a ha b hb e
      rw [Option.mem_toList] at ha hb
      have := h0 a ha; have := h1 b hb; omega
    · intro a ha b hb e
      have := hN a ha
      rcases List.mem_append.1 hb with hb | hb
      · rw [Option.mem_toList] at hb; have := h0 b hb; omega
      · rw [Option.mem_toList] at hb
        have h2 := h1 b hb
        omega

set_option linter.unusedSimpArgs false in
set_option linter.unusedVariables false in
set_option maxRecDepth 100000 in
set_option maxHeartbeats 4000000 in
theorem l2CopySep_any (p : Option Addr) (n c : Nat) (ls : List Lp) (w : World) (hn : ls.length = n) (hs : LoopsAt w (.slice p n c) ls) (hf : FourL 1000 ls) :
    Calls Try.prog 74 #[.slice p n c] w fun e w' => (∃ q d, e = .returned (.slice (some ⟨q, 0, none⟩) n d) ∧ LoopsSep w.heap.size w' (.slice (some ⟨q, 0, none⟩) n d) ls) ∧ Ext w w' := by
  have hm : n ≤ 9223372036854775807 := by obtain ⟨_, _, hv, hm, _⟩ := hs; rw [← hn]; exact hm
  obtain ⟨i0, hi, hz0, hz1, hz2⟩ := info_parts infoInt
  obtain ⟨i1, ha, hy0, hy1, hy2⟩ := info_parts infoAff
  obtain ⟨i2, hb, hx0, hx1, hx2⟩ := info_parts infoLoop
  have HS := Lib.hid hs; have HN := Lib.hid hn; have HF := Lib.hid hf; clear hs hn hf
  have HO0 : Hid ((w.alloc (.cells #[] 75)).ownsRow w.heap.size 75 2 (.slice (some ⟨w.heap.size, 0, none⟩) 0 0) 0 []) := Lib.hid (World.ownsRow_made w #[] 0 (Nat.le_refl _) (Nat.zero_le _) rfl)
  go_enter Try.func74, Try.ntmps74
  go_wp2
  go_loopw [3, 4] (fun v i wr => ∃ k gv cv : Nat, k ≤ n ∧ i = .int .i64 k ∧ v = .slice (some ⟨gv, 0, none⟩) k cv ∧ LoopsSep w.heap.size wr (.slice (some ⟨gv, 0, none⟩) k cv) (ls.take k) ∧ Ext w wr) (fun _ i _ => n - (intOf i).toNat)
  case atStart => exact ⟨0, _, _, by omega, rfl, rfl, by simpa using LoopsSep.made HO0.out, (Ext.refl w).alloc _⟩
  case round =>
    obtain ⟨k, gv, cv, hk, rfl, rfl, hv, hE⟩ := hrel
    obtain ⟨wa, hwa⟩ : ∃ wa, wa = wr := ⟨_, rfl⟩
    subst hwa
    have HV := Lib.hid hv; have HE := Lib.hid hE; clear hv HO0
    by_cases hlt : k < n
    · obtain ⟨x, hx⟩ := get_some (xs := ls) (k := k) (by rw [HN.out]; exact hlt)
      obtain ⟨b, off, q1, n1, q2, n2, rfl, c0, c1, hbb, hr1, hr2⟩ := (HS.out.ext hE).elem hx
      have hfx := HF.out.2 x (List.mem_of_getElem? hx)
      have HX := Lib.hid hx; have HR1 := Lib.hid hr1; have HR2 := Lib.hid hr2; have FA1 := Lib.hid hfx.1; have FA2 := Lib.hid hfx.2
      clear hx hr1 hr2 hfx hE
      have hGX0 := Lib.hid (blk_at (w := wa) (o := .cells #[.slice none 0 0, .slice none 0 0] 75) (g := wa.heap.size) rfl)
      have hGX0E := Lib.hid ((Ext.refl wa).alloc (.cells #[.slice none 0 0, .slice none 0 0] 75))
      have hkk : (0 : Int) ≤ (k : Int) := by omega
      have hkn : (k : Int) < (n : Int) := by omega
      go_wp2_with (fail)
      generalize wa.alloc (.cells #[.slice none 0 0, .slice none 0 0] 75) = W0 at *
      generalize hgx : wa.heap.size = gx at *
      have hgxE : wa.heap.size ≤ gx := by omega
      have HGXE := Lib.hid hgx; clear hgx
      have hlW0 := lt_of_block hGX0.out
      go_loopw [6] (fun i wq => ∃ (k1 : Nat) (v1 : Value), k1 ≤ x.1.length ∧ i = .int .i64 k1 ∧ wq.heap[gx]? = some (.cells #[v1, .slice none 0 0] 75 (0, 0)) ∧ AffsOwn W0.heap.size wq v1 (x.1.take k1) ∧ Dr W0 gx wq) (fun i _ => x.1.length - (intOf i).toNat)
      case atStart => exact ⟨0, .slice none 0 0, by omega, rfl, hGX0.out, by simpa using AffsOwn.nil _ _, Dr.refl _ _⟩
      case round =>
        obtain ⟨k1, v1, hk1, rfl, hgx, hv1, hD⟩ := hrel
        obtain ⟨wq, hwwq⟩ : ∃ wq, wq = wr := ⟨_, rfl⟩
        subst hwwq
        have HX1 := Lib.hid hgx; have HV1 := Lib.hid hv1; have HD1 := Lib.hid hD
        obtain ⟨pv, cv1, rfl⟩ := PairsOwn.slice hv1
        rw [take_len hk1] at HX1 HV1
        clear hgx hv1 hD
        have hEq : Ext wa wq := HD1.out.ext0 hGX0E.out (by omega)
        have c0q := hEq.keep c0
        have hszq := HD1.out.size
        by_cases hlt1 : k1 < x.1.length
        · obtain ⟨y, hy⟩ := get_some (xs := x.1) (k := k1) hlt1
          have hy4 := FA1.out.2 y (List.mem_of_getElem? hy)
          obtain ⟨ya, yb, yc, yd, z, rfl⟩ := four_of hy4
          clear hy4
          obtain ⟨b1, off1, q3, m3, hq1, d0, d1, hb1, hr3⟩ := (HR1.out.ext hEq).elem hy
          obtain ⟨bl, oo, m3', e3, h0, h1, h2, h3, hbl⟩ := hr3.four
          cases e3
          subst hq1
          have HY := Lib.hid hy; clear hy hr3
          dsimp only at d0 d1
          have hGA := Lib.hid (blk_at (w := wq) (o := .cells #[.slice (some ⟨bl, oo, none⟩) 4 m3, .int .i64 z] 36) (g := wq.heap.size) rfl)
          have hGX := Lib.hid (blk_old (o := .cells #[.slice (some ⟨bl, oo, none⟩) 4 m3, .int .i64 z] 36) HX1.out)
          have hDV := Lib.hid (HD1.out.alloc (.cells #[.slice (some ⟨bl, oo, none⟩) 4 m3, .int .i64 z] 36))
          have hVV := Lib.hid (AffsOwn.ext HV1.out ((Ext.refl wq).alloc (.cells #[.slice (some ⟨bl, oo, none⟩) 4 m3, .int .i64 z] 36)))
          have hEV := Lib.hid ((Ext.refl wq).alloc (.cells #[.slice (some ⟨bl, oo, none⟩) 4 m3, .int .i64 z] 36))
          have hbq : ∀ b, (Value.slice pv k1 cv1).ownBlock = some b → b < wq.heap.size := by
            obtain ⟨vs, ho, -⟩ := HV1.out
            exact fun b hb => (ho.lt b hb).2
          have HBQ := Lib.hid hbq
          have hgxq := lt_of_block HX1.out
          clear hbq
          go_wp2_with (fail)
          replace h0 := hEV.out.keep h0
          replace h1 := hEV.out.keep h1
          replace h2 := hEV.out.keep h2
          replace h3 := hEV.out.keep h3
          generalize wq.alloc (.cells #[.slice (some ⟨bl, oo, none⟩) 4 m3, .int .i64 z] 36) = V at *
          generalize hga : wq.heap.size = ga at *
          clear hga
          have hlga := lt_of_block hGA.out
          have hlgx : gx < V.heap.size := by omega
          obtain ⟨a0, a1, -, -⟩ := blk2 hGA.out
          obtain ⟨x0, x1, -, -⟩ := blk2 hGX.out
          have H0 := Lib.hid h0; have H1 := Lib.hid h1; have H2 := Lib.hid h2; have H3 := Lib.hid h3
          clear h0 h1 h2 h3
          have HK : ∀ W, Ext V W → ∀ j u, [Value.int .i64 ya, .int .i64 yb, .int .i64 yc, .int .i64 yd][j]? = some u → W.cell? ((⟨bl, oo, none⟩ : Addr).add j) = some u := by
            intro W hE j u hu
            match j, hu with
            | 0, hu => simp at hu; subst hu; exact hE.keep H0.out
            | 1, hu => simp at hu; subst hu; exact hE.keep H1.out
            | 2, hu => simp at hu; subst hu; exact hE.keep H2.out
            | 3, hu => simp at hu; subst hu; exact hE.keep H3.out
          have OA : Hid ((V.alloc (.cells #[] 3)).drew.ownsRow V.heap.size 3 1 (.slice (some ⟨V.heap.size, 0, none⟩) 0 0) 0 []) := Lib.hid (World.ownsRow_made V #[] 0 (Nat.le_refl _) (Nat.zero_le _) rfl)
          have EA0 := ((Ext.refl V).alloc (.cells #[] 3)).drew.keep a0
          have EA1 := ((Ext.refl V).alloc (.cells #[] 3)).drew.keep a1
          have HTL := Lib.hid (take_len hk1)
          have hMk : k1 ≤ 1000 := Nat.le_trans hk1 FA1.out.1
          refine wp_region_held_drew (S := (fun W' => W'.cell? ⟨ga, 0, none⟩ = some (.slice (some ⟨bl, oo, none⟩) 4 m3) ∧ W'.cell? ⟨ga, 1, none⟩ = some (.int .i64 z))) (by kernel_rfl) ⟨a0, a1⟩ (fun hHeld => ?_)
          refine wpAnyH_takeDw (some 36) (i := 0) (v := ?v0z1) rfl (by kernel_rfl) (by kernel_rfl) (by kernel_rfl) (by kernel_rfl) (fun _ _ _ h => h) (Or.inl ⟨by rfl, ?hy0z1⟩) (by assumption) ?r0z1
          case hy0z1 => intro w hSw; (try dsimp only at hSw); go_simp; first | done | with_reducible rfl
          case' r0z1 => try simp only [Act.put, List.setIfInBounds_toArray, List.set_cons_zero, List.set_cons_succ]
          refine wpAnyH_takeDw (some 39) (i := 3) (v := ?v3z1) rfl (by kernel_rfl) (by kernel_rfl) (by kernel_rfl) (by kernel_rfl) (fun _ _ _ h => h) (Or.inl ⟨by rfl, ?hy3z1⟩) (by assumption) ?r3z1
          case hy3z1 => intro w hSw; (try dsimp only at hSw); go_simp; first | done | with_reducible rfl
          case' r3z1 => try simp only [Act.put, List.setIfInBounds_toArray, List.set_cons_zero, List.set_cons_succ]
          refine wpAnyH_takeDw (some 40) (i := 4) (v := ?v4z1) rfl (by kernel_rfl) (by kernel_rfl) (by kernel_rfl) (by kernel_rfl) (fun _ _ _ h => h) (Or.inl ⟨by rfl, ?hy4z1⟩) (by assumption) ?r4z1
          case hy4z1 => intro w hSw; (try dsimp only at hSw); go_simp; first | done | with_reducible rfl
          case' r4z1 => try simp only [Act.put, List.setIfInBounds_toArray, List.set_cons_zero, List.set_cons_succ]
          refine wpAnyH_takeDw (some 42) (i := 6) (v := ?v6z1) rfl (by kernel_rfl) (by kernel_rfl) (by kernel_rfl) (by kernel_rfl) (fun _ _ _ h => h) (Or.inl ⟨by rfl, ?hy6z1⟩) (by assumption) ?r6z1
          case hy6z1 => intro w hSw; (try dsimp only at hSw); go_simp; first | done | with_reducible rfl
          case' r6z1 => try simp only [Act.put, List.setIfInBounds_toArray, List.set_cons_zero, List.set_cons_succ]
          refine wpAnyH_takeDw (some 43) (i := 7) (v := ?v7z1) rfl (by kernel_rfl) (by kernel_rfl) (by kernel_rfl) (by kernel_rfl) (fun _ _ _ h => h) (Or.inl ⟨by rfl, ?hy7z1⟩) (by assumption) ?r7z1
          case hy7z1 => intro w hSw; (try dsimp only at hSw); go_simp; first | done | with_reducible rfl
          case' r7z1 => try simp only [Act.put, List.setIfInBounds_toArray, List.set_cons_zero, List.set_cons_succ]
          refine wpAnyH_ready (rs := [1, 2]) (by kernel_rfl) (by simp) ?_
          refine AllReadyH.cons rfl (fun K hK => ?_) (AllReadyH.cons rfl (fun K hK => ?_) AllReadyH.nil)
          · skip
            go_simp
            refine hK.out _ _ ⟨a0, a1⟩ (fun hH1 => ?_)
            clear hK K
            try simp only [Act.put, List.setIfInBounds_toArray, List.set_cons_zero, List.set_cons_succ]
            refine wpAnyH_ready (rs := [2]) (by kernel_rfl) (by simp) ?_
            refine AllReadyH.cons rfl (fun K hK => ?_) AllReadyH.nil
            go_simp
            refine hK.out _ _ ⟨EA0, EA1⟩ (fun hH2 => ?_)
            clear hK K
            try simp only [Act.put, List.setIfInBounds_toArray, List.set_cons_zero, List.set_cons_succ]
            refine wpAnyH_ready (rs := [5]) (by kernel_rfl) (by simp) ?_
            refine AllReadyH.cons rfl (fun K hK => ?_) AllReadyH.nil
            (refine step_append_lies _ rfl (.tmp 38) (.tmp 40) 22 rfl V.heap.size 3 i0 (.int .i64 0) 1 8 underSliceInt hi hz0 hz1 hz2 rfl (by decide) (.slice (some ⟨V.heap.size, 0, none⟩) 0 0) 0 [] rfl OA.out ⟨bl, oo, none⟩ 4 m3 [.int .i64 ya, .int .i64 yb, .int .i64 yc, .int .i64 yd] rfl rfl (HK _ ((Ext.refl V).alloc (.cells #[] 3)).drew) (by intro u hu; simp at hu; rcases hu with rfl | rfl | rfl | rfl <;> rfl) (by omega) (by unfold maxLen; omega) (by omega) (by simp <;> omega) _ rfl ?_; intro g cap' w1 hown hgrow hgeq _; have EX : Ext V w1 := Ext.grown (((Ext.refl V).alloc (.cells #[] 3)).drew) hgrow (fun b hb => by have hb' : V.heap.size = b := Option.some.inj hb; omega); have x0' := EX.keep x0; have x1' := EX.keep x1; have b0' := EX.keep a0; have b1' := EX.keep a1; have b0'' := (EX.alloc (.cells #[.slice (some ⟨g, 0, none⟩) 4 cap', .int .i64 z] 36)).keep a0; have b1'' := (EX.alloc (.cells #[.slice (some ⟨g, 0, none⟩) 4 cap', .int .i64 z] 36)).keep a1; have hl1 : gx < w1.heap.size := Nat.lt_of_lt_of_le hlgx EX.size_le)
            refine hK.out _ _ ⟨b0', b1'⟩ (fun hH3 => ?_)
            clear hK K
            try simp only [Act.put, List.setIfInBounds_toArray, List.set_cons_zero, List.set_cons_succ]
            refine wpAnyH_takeDw (some 44) (i := 8) (v := ?v8_4z1) rfl (by kernel_rfl) (by kernel_rfl) (by kernel_rfl) (by kernel_rfl) (fun _ _ _ h => h) (Or.inl ⟨by rfl, ?hy8_4z1⟩) (by assumption) ?r8_4z1
            case hy8_4z1 => intro w hSw; (try dsimp only at hSw); go_simp; first | done | with_reducible rfl
            case' r8_4z1 => try simp only [Act.put, List.setIfInBounds_toArray, List.set_cons_zero, List.set_cons_succ]
            refine wpAnyH_ready (rs := [9]) (by kernel_rfl) (by simp) ?_
            refine AllReadyH.cons rfl (fun K hK => ?_) AllReadyH.nil
            go_simp
            refine hK.out _ _ ⟨b0'', b1''⟩ (fun hH5 => ?_)
            clear hK K
            try simp only [Act.put, List.setIfInBounds_toArray, List.set_cons_zero, List.set_cons_succ]
            refine wpAnyH_ready (rs := [10]) (by kernel_rfl) (by simp) ?_
            refine AllReadyH.cons rfl (fun K hK => ?_) AllReadyH.nil
            (have EXA : Ext V (w1.alloc (.cells #[.slice (some ⟨g, 0, none⟩) 4 cap', .int .i64 z] 36)) := EX.alloc _; obtain ⟨vs, ho, he⟩ := AffsOwn.ext hVV.out EXA; rw [HTL.out] at ho; have hvl := ho.1; refine step_append_lies _ rfl (.tmp 37) (.tmp 45) 49 rfl W0.heap.size 36 i1 (.agg #[.slice none 0 0, .int .i64 0]) 2 32 underSliceAff ha hy0 hy1 hy2 rfl (by decide) (.slice pv k1 cv1) k1 vs rfl ho ⟨w1.heap.size, 0, none⟩ 1 1 [.slice (some ⟨g, 0, none⟩) 4 cap', .int .i64 z] rfl rfl (pair_cells rfl) (by intro u hu; simp at hu; rcases hu with rfl | rfl <;> rfl) (by omega) (by unfold maxLen; omega) (by omega) (by have := EX.size_le; simp <;> omega) _ rfl ?_; intro gn cn w4 hown' hgrow' hgeq' hltg; have htag := own_tag ho; have GX4 := blk_tag (EXA.blk hGX.out) hgrow' htag (by decide); have GA4 := grownBy_blk hgrow' (EXA.blk hGA.out) (fun e => by have := HBQ.out _ e.symm; omega); obtain ⟨s0', s1', -, -⟩ := blk2 GA4; obtain ⟨y0', y1', f0', f1'⟩ := blk2 GX4; have s0'' := (cell_setAt (g := gx) (o := 0) (.slice (some ⟨gn, 0, none⟩) (k1 + 1) cn) (show ga ≠ gx by omega)).trans s0'; have s1'' := (cell_setAt (g := gx) (o := 0) (.slice (some ⟨gn, 0, none⟩) (k1 + 1) cn) (show ga ≠ gx by omega)).trans s1'; have hres : AffsOwn W0.heap.size w4 (.slice (some ⟨gn, 0, none⟩) (k1 + 1) cn) (x.1.take k1 ++ [([ya, yb, yc, yd], z)]) := PairsOwn.push (R := AffO) (fun h a b => AffO.grow h a b) HTL.out he hvl hown' hgrow' htag ⟨(IntsOwn.weak (IntsOwn.mk hown rfl) (by have := hDV.out.size; omega)).ext ((Ext.refl w1).alloc _), rfl⟩; have hDr := (hDV.out.ext EXA).fresh hgrow' (fun b hb => (ho.lt b hb).1))
            refine hK.out _ _ ⟨s0', s1'⟩ (fun hH6 => ?_)
            clear hK K
            try simp only [Act.put, List.setIfInBounds_toArray, List.set_cons_zero, List.set_cons_succ]
            refine wpAnyH_takeDw (some 47) (i := 11) (v := ?v11_7z1) rfl (by kernel_rfl) (by kernel_rfl) (by kernel_rfl) (by kernel_rfl) (fun _ _ _ h => h) (Or.inl ⟨by rfl, ?hy11_7z1⟩) (by assumption) ?r11_7z1
            case hy11_7z1 => intro w hSw; (try dsimp only at hSw); go_simp; first | done | with_reducible rfl
            case' r11_7z1 => try simp only [Act.put, List.setIfInBounds_toArray, List.set_cons_zero, List.set_cons_succ]
            refine wpAnyH_ready (rs := [12]) (by kernel_rfl) (by simp) ?_
            refine AllReadyH.cons rfl (fun K hK => ?_) AllReadyH.nil
            go_simp
            refine hK.out _ _ ⟨s0'', s1''⟩ (fun hH8 => ?_)
            clear hK K
            try simp only [Act.put, List.setIfInBounds_toArray, List.set_cons_zero, List.set_cons_succ]
            refine wpAnyH_done (by kernel_rfl) ?_ _
            rw [← take_next HY.out] at hres
            have HRS := Lib.hid (AffsOwn.tag' hres (grown_set w4 gx 0 (.slice (some ⟨gn, 0, none⟩) (k1 + 1) cn)) (Tag.blk GX4) (by decide) (by decide)); have HDD := Lib.hid (Dr.trans hDr (grown_set w4 gx 0 (.slice (some ⟨gn, 0, none⟩) (k1 + 1) cn))); have HGX := Lib.hid (blk2_set0' (c := .slice (some ⟨gn, 0, none⟩) (k1 + 1) cn) GX4)
            clear hres hDr GX4 GA4 htag s0' s1' s0'' s1'' b0' b1' b0'' b1'' x0' x1' EX EXA
            go_wp2
            go_roundw
            case rel => exact ⟨k1 + 1, _, by omega, by go_num, HGX.out, HRS.out, HDD.out⟩
            case measure => simp [intOf]; omega
          · skip
            go_simp
            refine hK.out _ _ ⟨EA0, EA1⟩ (fun hH9 => ?_)
            clear hK K
            try simp only [Act.put, List.setIfInBounds_toArray, List.set_cons_zero, List.set_cons_succ]
            refine wpAnyH_ready (rs := [1, 5]) (by kernel_rfl) (by simp) ?_
            refine AllReadyH.cons rfl (fun K hK => ?_) (AllReadyH.cons rfl (fun K hK => ?_) AllReadyH.nil)
            · skip
              go_simp
              refine hK.out _ _ ⟨EA0, EA1⟩ (fun hH10 => ?_)
              clear hK K
              try simp only [Act.put, List.setIfInBounds_toArray, List.set_cons_zero, List.set_cons_succ]
              refine wpAnyH_ready (rs := [5]) (by kernel_rfl) (by simp) ?_
              refine AllReadyH.cons rfl (fun K hK => ?_) AllReadyH.nil
              (refine step_append_lies _ rfl (.tmp 38) (.tmp 40) 22 rfl V.heap.size 3 i0 (.int .i64 0) 1 8 underSliceInt hi hz0 hz1 hz2 rfl (by decide) (.slice (some ⟨V.heap.size, 0, none⟩) 0 0) 0 [] rfl OA.out ⟨bl, oo, none⟩ 4 m3 [.int .i64 ya, .int .i64 yb, .int .i64 yc, .int .i64 yd] rfl rfl (HK _ ((Ext.refl V).alloc (.cells #[] 3)).drew) (by intro u hu; simp at hu; rcases hu with rfl | rfl | rfl | rfl <;> rfl) (by omega) (by unfold maxLen; omega) (by omega) (by simp <;> omega) _ rfl ?_; intro g cap' w1 hown hgrow hgeq _; have EX : Ext V w1 := Ext.grown (((Ext.refl V).alloc (.cells #[] 3)).drew) hgrow (fun b hb => by have hb' : V.heap.size = b := Option.some.inj hb; omega); have x0' := EX.keep x0; have x1' := EX.keep x1; have b0' := EX.keep a0; have b1' := EX.keep a1; have b0'' := (EX.alloc (.cells #[.slice (some ⟨g, 0, none⟩) 4 cap', .int .i64 z] 36)).keep a0; have b1'' := (EX.alloc (.cells #[.slice (some ⟨g, 0, none⟩) 4 cap', .int .i64 z] 36)).keep a1; have hl1 : gx < w1.heap.size := Nat.lt_of_lt_of_le hlgx EX.size_le)
              refine hK.out _ _ ⟨b0', b1'⟩ (fun hH11 => ?_)
              clear hK K
              try simp only [Act.put, List.setIfInBounds_toArray, List.set_cons_zero, List.set_cons_succ]
              refine wpAnyH_takeDw (some 44) (i := 8) (v := ?v8_12z1) rfl (by kernel_rfl) (by kernel_rfl) (by kernel_rfl) (by kernel_rfl) (fun _ _ _ h => h) (Or.inl ⟨by rfl, ?hy8_12z1⟩) (by assumption) ?r8_12z1
              case hy8_12z1 => intro w hSw; (try dsimp only at hSw); go_simp; first | done | with_reducible rfl
              case' r8_12z1 => try simp only [Act.put, List.setIfInBounds_toArray, List.set_cons_zero, List.set_cons_succ]
              refine wpAnyH_ready (rs := [9]) (by kernel_rfl) (by simp) ?_
              refine AllReadyH.cons rfl (fun K hK => ?_) AllReadyH.nil
              go_simp
              refine hK.out _ _ ⟨b0'', b1''⟩ (fun hH13 => ?_)
              clear hK K
              try simp only [Act.put, List.setIfInBounds_toArray, List.set_cons_zero, List.set_cons_succ]
              refine wpAnyH_ready (rs := [10]) (by kernel_rfl) (by simp) ?_
              refine AllReadyH.cons rfl (fun K hK => ?_) AllReadyH.nil
              (have EXA : Ext V (w1.alloc (.cells #[.slice (some ⟨g, 0, none⟩) 4 cap', .int .i64 z] 36)) := EX.alloc _; obtain ⟨vs, ho, he⟩ := AffsOwn.ext hVV.out EXA; rw [HTL.out] at ho; have hvl := ho.1; refine step_append_lies _ rfl (.tmp 37) (.tmp 45) 49 rfl W0.heap.size 36 i1 (.agg #[.slice none 0 0, .int .i64 0]) 2 32 underSliceAff ha hy0 hy1 hy2 rfl (by decide) (.slice pv k1 cv1) k1 vs rfl ho ⟨w1.heap.size, 0, none⟩ 1 1 [.slice (some ⟨g, 0, none⟩) 4 cap', .int .i64 z] rfl rfl (pair_cells rfl) (by intro u hu; simp at hu; rcases hu with rfl | rfl <;> rfl) (by omega) (by unfold maxLen; omega) (by omega) (by have := EX.size_le; simp <;> omega) _ rfl ?_; intro gn cn w4 hown' hgrow' hgeq' hltg; have htag := own_tag ho; have GX4 := blk_tag (EXA.blk hGX.out) hgrow' htag (by decide); have GA4 := grownBy_blk hgrow' (EXA.blk hGA.out) (fun e => by have := HBQ.out _ e.symm; omega); obtain ⟨s0', s1', -, -⟩ := blk2 GA4; obtain ⟨y0', y1', f0', f1'⟩ := blk2 GX4; have s0'' := (cell_setAt (g := gx) (o := 0) (.slice (some ⟨gn, 0, none⟩) (k1 + 1) cn) (show ga ≠ gx by omega)).trans s0'; have s1'' := (cell_setAt (g := gx) (o := 0) (.slice (some ⟨gn, 0, none⟩) (k1 + 1) cn) (show ga ≠ gx by omega)).trans s1'; have hres : AffsOwn W0.heap.size w4 (.slice (some ⟨gn, 0, none⟩) (k1 + 1) cn) (x.1.take k1 ++ [([ya, yb, yc, yd], z)]) := PairsOwn.push (R := AffO) (fun h a b => AffO.grow h a b) HTL.out he hvl hown' hgrow' htag ⟨(IntsOwn.weak (IntsOwn.mk hown rfl) (by have := hDV.out.size; omega)).ext ((Ext.refl w1).alloc _), rfl⟩; have hDr := (hDV.out.ext EXA).fresh hgrow' (fun b hb => (ho.lt b hb).1))
              refine hK.out _ _ ⟨s0', s1'⟩ (fun hH14 => ?_)
              clear hK K
              try simp only [Act.put, List.setIfInBounds_toArray, List.set_cons_zero, List.set_cons_succ]
              refine wpAnyH_takeDw (some 47) (i := 11) (v := ?v11_15z1) rfl (by kernel_rfl) (by kernel_rfl) (by kernel_rfl) (by kernel_rfl) (fun _ _ _ h => h) (Or.inl ⟨by rfl, ?hy11_15z1⟩) (by assumption) ?r11_15z1
              case hy11_15z1 => intro w hSw; (try dsimp only at hSw); go_simp; first | done | with_reducible rfl
              case' r11_15z1 => try simp only [Act.put, List.setIfInBounds_toArray, List.set_cons_zero, List.set_cons_succ]
              refine wpAnyH_ready (rs := [12]) (by kernel_rfl) (by simp) ?_
              refine AllReadyH.cons rfl (fun K hK => ?_) AllReadyH.nil
              go_simp
              refine hK.out _ _ ⟨s0'', s1''⟩ (fun hH16 => ?_)
              clear hK K
              try simp only [Act.put, List.setIfInBounds_toArray, List.set_cons_zero, List.set_cons_succ]
              refine wpAnyH_done (by kernel_rfl) ?_ _
              rw [← take_next HY.out] at hres
              have HRS := Lib.hid (AffsOwn.tag' hres (grown_set w4 gx 0 (.slice (some ⟨gn, 0, none⟩) (k1 + 1) cn)) (Tag.blk GX4) (by decide) (by decide)); have HDD := Lib.hid (Dr.trans hDr (grown_set w4 gx 0 (.slice (some ⟨gn, 0, none⟩) (k1 + 1) cn))); have HGX := Lib.hid (blk2_set0' (c := .slice (some ⟨gn, 0, none⟩) (k1 + 1) cn) GX4)
              clear hres hDr GX4 GA4 htag s0' s1' s0'' s1'' b0' b1' b0'' b1'' x0' x1' EX EXA
              go_wp2
              go_roundw
              case rel => exact ⟨k1 + 1, _, by omega, by go_num, HGX.out, HRS.out, HDD.out⟩
              case measure => simp [intOf]; omega
            · skip
              (refine step_append_lies _ rfl (.tmp 38) (.tmp 40) 22 rfl V.heap.size 3 i0 (.int .i64 0) 1 8 underSliceInt hi hz0 hz1 hz2 rfl (by decide) (.slice (some ⟨V.heap.size, 0, none⟩) 0 0) 0 [] rfl OA.out ⟨bl, oo, none⟩ 4 m3 [.int .i64 ya, .int .i64 yb, .int .i64 yc, .int .i64 yd] rfl rfl (HK _ ((Ext.refl V).alloc (.cells #[] 3)).drew) (by intro u hu; simp at hu; rcases hu with rfl | rfl | rfl | rfl <;> rfl) (by omega) (by unfold maxLen; omega) (by omega) (by simp <;> omega) _ rfl ?_; intro g cap' w1 hown hgrow hgeq _; have EX : Ext V w1 := Ext.grown (((Ext.refl V).alloc (.cells #[] 3)).drew) hgrow (fun b hb => by have hb' : V.heap.size = b := Option.some.inj hb; omega); have x0' := EX.keep x0; have x1' := EX.keep x1; have b0' := EX.keep a0; have b1' := EX.keep a1; have b0'' := (EX.alloc (.cells #[.slice (some ⟨g, 0, none⟩) 4 cap', .int .i64 z] 36)).keep a0; have b1'' := (EX.alloc (.cells #[.slice (some ⟨g, 0, none⟩) 4 cap', .int .i64 z] 36)).keep a1; have hl1 : gx < w1.heap.size := Nat.lt_of_lt_of_le hlgx EX.size_le)
              refine hK.out _ _ ⟨b0', b1'⟩ (fun hH17 => ?_)
              clear hK K
              try simp only [Act.put, List.setIfInBounds_toArray, List.set_cons_zero, List.set_cons_succ]
              refine wpAnyH_takeDw (some 44) (i := 8) (v := ?v8_18z1) rfl (by kernel_rfl) (by kernel_rfl) (by kernel_rfl) (by kernel_rfl) (fun _ _ _ h => h) (Or.inl ⟨by rfl, ?hy8_18z1⟩) (by assumption) ?r8_18z1
              case hy8_18z1 => intro w hSw; (try dsimp only at hSw); go_simp; first | done | with_reducible rfl
              case' r8_18z1 => try simp only [Act.put, List.setIfInBounds_toArray, List.set_cons_zero, List.set_cons_succ]
              refine wpAnyH_ready (rs := [1, 9]) (by kernel_rfl) (by simp) ?_
              refine AllReadyH.cons rfl (fun K hK => ?_) (AllReadyH.cons rfl (fun K hK => ?_) AllReadyH.nil)
              · skip
                go_simp
                refine hK.out _ _ ⟨b0', b1'⟩ (fun hH19 => ?_)
                clear hK K
                try simp only [Act.put, List.setIfInBounds_toArray, List.set_cons_zero, List.set_cons_succ]
                refine wpAnyH_ready (rs := [9]) (by kernel_rfl) (by simp) ?_
                refine AllReadyH.cons rfl (fun K hK => ?_) AllReadyH.nil
                go_simp
                refine hK.out _ _ ⟨b0'', b1''⟩ (fun hH20 => ?_)
                clear hK K
                try simp only [Act.put, List.setIfInBounds_toArray, List.set_cons_zero, List.set_cons_succ]
                refine wpAnyH_ready (rs := [10]) (by kernel_rfl) (by simp) ?_
                refine AllReadyH.cons rfl (fun K hK => ?_) AllReadyH.nil
                (have EXA : Ext V (w1.alloc (.cells #[.slice (some ⟨g, 0, none⟩) 4 cap', .int .i64 z] 36)) := EX.alloc _; obtain ⟨vs, ho, he⟩ := AffsOwn.ext hVV.out EXA; rw [HTL.out] at ho; have hvl := ho.1; refine step_append_lies _ rfl (.tmp 37) (.tmp 45) 49 rfl W0.heap.size 36 i1 (.agg #[.slice none 0 0, .int .i64 0]) 2 32 underSliceAff ha hy0 hy1 hy2 rfl (by decide) (.slice pv k1 cv1) k1 vs rfl ho ⟨w1.heap.size, 0, none⟩ 1 1 [.slice (some ⟨g, 0, none⟩) 4 cap', .int .i64 z] rfl rfl (pair_cells rfl) (by intro u hu; simp at hu; rcases hu with rfl | rfl <;> rfl) (by omega) (by unfold maxLen; omega) (by omega) (by have := EX.size_le; simp <;> omega) _ rfl ?_; intro gn cn w4 hown' hgrow' hgeq' hltg; have htag := own_tag ho; have GX4 := blk_tag (EXA.blk hGX.out) hgrow' htag (by decide); have GA4 := grownBy_blk hgrow' (EXA.blk hGA.out) (fun e => by have := HBQ.out _ e.symm; omega); obtain ⟨s0', s1', -, -⟩ := blk2 GA4; obtain ⟨y0', y1', f0', f1'⟩ := blk2 GX4; have s0'' := (cell_setAt (g := gx) (o := 0) (.slice (some ⟨gn, 0, none⟩) (k1 + 1) cn) (show ga ≠ gx by omega)).trans s0'; have s1'' := (cell_setAt (g := gx) (o := 0) (.slice (some ⟨gn, 0, none⟩) (k1 + 1) cn) (show ga ≠ gx by omega)).trans s1'; have hres : AffsOwn W0.heap.size w4 (.slice (some ⟨gn, 0, none⟩) (k1 + 1) cn) (x.1.take k1 ++ [([ya, yb, yc, yd], z)]) := PairsOwn.push (R := AffO) (fun h a b => AffO.grow h a b) HTL.out he hvl hown' hgrow' htag ⟨(IntsOwn.weak (IntsOwn.mk hown rfl) (by have := hDV.out.size; omega)).ext ((Ext.refl w1).alloc _), rfl⟩; have hDr := (hDV.out.ext EXA).fresh hgrow' (fun b hb => (ho.lt b hb).1))
                refine hK.out _ _ ⟨s0', s1'⟩ (fun hH21 => ?_)
                clear hK K
                try simp only [Act.put, List.setIfInBounds_toArray, List.set_cons_zero, List.set_cons_succ]
                refine wpAnyH_takeDw (some 47) (i := 11) (v := ?v11_22z1) rfl (by kernel_rfl) (by kernel_rfl) (by kernel_rfl) (by kernel_rfl) (fun _ _ _ h => h) (Or.inl ⟨by rfl, ?hy11_22z1⟩) (by assumption) ?r11_22z1
                case hy11_22z1 => intro w hSw; (try dsimp only at hSw); go_simp; first | done | with_reducible rfl
                case' r11_22z1 => try simp only [Act.put, List.setIfInBounds_toArray, List.set_cons_zero, List.set_cons_succ]
                refine wpAnyH_ready (rs := [12]) (by kernel_rfl) (by simp) ?_
                refine AllReadyH.cons rfl (fun K hK => ?_) AllReadyH.nil
                go_simp
                refine hK.out _ _ ⟨s0'', s1''⟩ (fun hH23 => ?_)
                clear hK K
                try simp only [Act.put, List.setIfInBounds_toArray, List.set_cons_zero, List.set_cons_succ]
                refine wpAnyH_done (by kernel_rfl) ?_ _
                rw [← take_next HY.out] at hres
                have HRS := Lib.hid (AffsOwn.tag' hres (grown_set w4 gx 0 (.slice (some ⟨gn, 0, none⟩) (k1 + 1) cn)) (Tag.blk GX4) (by decide) (by decide)); have HDD := Lib.hid (Dr.trans hDr (grown_set w4 gx 0 (.slice (some ⟨gn, 0, none⟩) (k1 + 1) cn))); have HGX := Lib.hid (blk2_set0' (c := .slice (some ⟨gn, 0, none⟩) (k1 + 1) cn) GX4)
                clear hres hDr GX4 GA4 htag s0' s1' s0'' s1'' b0' b1' b0'' b1'' x0' x1' EX EXA
                go_wp2
                go_roundw
                case rel => exact ⟨k1 + 1, _, by omega, by go_num, HGX.out, HRS.out, HDD.out⟩
                case measure => simp [intOf]; omega
              · skip
                go_simp
                refine hK.out _ _ ⟨b0'', b1''⟩ (fun hH24 => ?_)
                clear hK K
                try simp only [Act.put, List.setIfInBounds_toArray, List.set_cons_zero, List.set_cons_succ]
                refine wpAnyH_ready (rs := [1]) (by kernel_rfl) (by simp) ?_
                refine AllReadyH.cons rfl (fun K hK => ?_) AllReadyH.nil
                go_simp
                refine hK.out _ _ ⟨b0'', b1''⟩ (fun hH25 => ?_)
                clear hK K
                try simp only [Act.put, List.setIfInBounds_toArray, List.set_cons_zero, List.set_cons_succ]
                refine wpAnyH_ready (rs := [10]) (by kernel_rfl) (by simp) ?_
                refine AllReadyH.cons rfl (fun K hK => ?_) AllReadyH.nil
                (have EXA : Ext V (w1.alloc (.cells #[.slice (some ⟨g, 0, none⟩) 4 cap', .int .i64 z] 36)) := EX.alloc _; obtain ⟨vs, ho, he⟩ := AffsOwn.ext hVV.out EXA; rw [HTL.out] at ho; have hvl := ho.1; refine step_append_lies _ rfl (.tmp 37) (.tmp 45) 49 rfl W0.heap.size 36 i1 (.agg #[.slice none 0 0, .int .i64 0]) 2 32 underSliceAff ha hy0 hy1 hy2 rfl (by decide) (.slice pv k1 cv1) k1 vs rfl ho ⟨w1.heap.size, 0, none⟩ 1 1 [.slice (some ⟨g, 0, none⟩) 4 cap', .int .i64 z] rfl rfl (pair_cells rfl) (by intro u hu; simp at hu; rcases hu with rfl | rfl <;> rfl) (by omega) (by unfold maxLen; omega) (by omega) (by have := EX.size_le; simp <;> omega) _ rfl ?_; intro gn cn w4 hown' hgrow' hgeq' hltg; have htag := own_tag ho; have GX4 := blk_tag (EXA.blk hGX.out) hgrow' htag (by decide); have GA4 := grownBy_blk hgrow' (EXA.blk hGA.out) (fun e => by have := HBQ.out _ e.symm; omega); obtain ⟨s0', s1', -, -⟩ := blk2 GA4; obtain ⟨y0', y1', f0', f1'⟩ := blk2 GX4; have s0'' := (cell_setAt (g := gx) (o := 0) (.slice (some ⟨gn, 0, none⟩) (k1 + 1) cn) (show ga ≠ gx by omega)).trans s0'; have s1'' := (cell_setAt (g := gx) (o := 0) (.slice (some ⟨gn, 0, none⟩) (k1 + 1) cn) (show ga ≠ gx by omega)).trans s1'; have hres : AffsOwn W0.heap.size w4 (.slice (some ⟨gn, 0, none⟩) (k1 + 1) cn) (x.1.take k1 ++ [([ya, yb, yc, yd], z)]) := PairsOwn.push (R := AffO) (fun h a b => AffO.grow h a b) HTL.out he hvl hown' hgrow' htag ⟨(IntsOwn.weak (IntsOwn.mk hown rfl) (by have := hDV.out.size; omega)).ext ((Ext.refl w1).alloc _), rfl⟩; have hDr := (hDV.out.ext EXA).fresh hgrow' (fun b hb => (ho.lt b hb).1))
                refine hK.out _ _ ⟨s0', s1'⟩ (fun hH26 => ?_)
                clear hK K
                try simp only [Act.put, List.setIfInBounds_toArray, List.set_cons_zero, List.set_cons_succ]
                refine wpAnyH_takeDw (some 47) (i := 11) (v := ?v11_27z1) rfl (by kernel_rfl) (by kernel_rfl) (by kernel_rfl) (by kernel_rfl) (fun _ _ _ h => h) (Or.inl ⟨by rfl, ?hy11_27z1⟩) (by assumption) ?r11_27z1
                case hy11_27z1 => intro w hSw; (try dsimp only at hSw); go_simp; first | done | with_reducible rfl
                case' r11_27z1 => try simp only [Act.put, List.setIfInBounds_toArray, List.set_cons_zero, List.set_cons_succ]
                refine wpAnyH_ready (rs := [12]) (by kernel_rfl) (by simp) ?_
                refine AllReadyH.cons rfl (fun K hK => ?_) AllReadyH.nil
                go_simp
                refine hK.out _ _ ⟨s0'', s1''⟩ (fun hH28 => ?_)
                clear hK K
                try simp only [Act.put, List.setIfInBounds_toArray, List.set_cons_zero, List.set_cons_succ]
                refine wpAnyH_done (by kernel_rfl) ?_ _
                rw [← take_next HY.out] at hres
                have HRS := Lib.hid (AffsOwn.tag' hres (grown_set w4 gx 0 (.slice (some ⟨gn, 0, none⟩) (k1 + 1) cn)) (Tag.blk GX4) (by decide) (by decide)); have HDD := Lib.hid (Dr.trans hDr (grown_set w4 gx 0 (.slice (some ⟨gn, 0, none⟩) (k1 + 1) cn))); have HGX := Lib.hid (blk2_set0' (c := .slice (some ⟨gn, 0, none⟩) (k1 + 1) cn) GX4)
                clear hres hDr GX4 GA4 htag s0' s1' s0'' s1'' b0' b1' b0'' b1'' x0' x1' EX EXA
                go_wp2
                go_roundw
                case rel => exact ⟨k1 + 1, _, by omega, by go_num, HGX.out, HRS.out, HDD.out⟩
                case measure => simp [intOf]; omega
        · have hV1 := HV1.out
          rw [List.take_of_length_le (by omega)] at hV1
          have HVA := Lib.hid hV1; clear hV1 HV1
          have c1m := hEq.keep c1
          have HEQ := Lib.hid hEq; clear hEq
          have hszm := HD1.out.size
          have hgxm := lt_of_block HX1.out
          go_wp2_with (fail)
          go_loopw [8] (fun i wq2 => ∃ (k2 : Nat) (v2 : Value), k2 ≤ x.2.length ∧ i = .int .i64 k2 ∧ wq2.heap[gx]? = some (.cells #[.slice pv k1 cv1, v2] 75 (0, 0)) ∧ AffsOwn wq.heap.size wq2 v2 (x.2.take k2) ∧ Dr wq gx wq2) (fun i _ => x.2.length - (intOf i).toNat)
          case atStart => exact ⟨0, .slice none 0 0, by omega, rfl, HX1.out, by simpa using AffsOwn.nil _ _, Dr.refl _ _⟩
          case round =>
            obtain ⟨k2, v2, hk2, rfl, hgx, hv2, hD⟩ := hrel
            obtain ⟨wq2, hwwq2⟩ : ∃ wq2, wq2 = wr := ⟨_, rfl⟩
            subst hwwq2
            have HX2 := Lib.hid hgx; have HV2 := Lib.hid hv2; have HD2 := Lib.hid hD
            obtain ⟨pv2, cv2, rfl⟩ := PairsOwn.slice hv2
            rw [take_len hk2] at HX2 HV2
            clear hgx hv2 hD
            have hEq2 : Ext wa wq2 := HD2.out.ext0 HEQ.out (by omega)
            have c1q := hEq2.keep c1
            have hszq := HD2.out.size
            by_cases hlt2 : k2 < x.2.length
            · obtain ⟨y, hy⟩ := get_some (xs := x.2) (k := k2) hlt2
              have hy4 := FA2.out.2 y (List.mem_of_getElem? hy)
              obtain ⟨ya, yb, yc, yd, z, rfl⟩ := four_of hy4
              clear hy4
              obtain ⟨b1, off1, q3, m3, hq1, d0, d1, hb1, hr3⟩ := (HR2.out.ext hEq2).elem hy
              obtain ⟨bl, oo, m3', e3, h0, h1, h2, h3, hbl⟩ := hr3.four
              cases e3
              subst hq1
              have HY := Lib.hid hy; clear hy hr3
              dsimp only at d0 d1
              have hGA := Lib.hid (blk_at (w := wq2) (o := .cells #[.slice (some ⟨bl, oo, none⟩) 4 m3, .int .i64 z] 36) (g := wq2.heap.size) rfl)
              have hGX := Lib.hid (blk_old (o := .cells #[.slice (some ⟨bl, oo, none⟩) 4 m3, .int .i64 z] 36) HX2.out)
              have hDV := Lib.hid (HD2.out.alloc (.cells #[.slice (some ⟨bl, oo, none⟩) 4 m3, .int .i64 z] 36))
              have hVV := Lib.hid (AffsOwn.ext HV2.out ((Ext.refl wq2).alloc (.cells #[.slice (some ⟨bl, oo, none⟩) 4 m3, .int .i64 z] 36)))
              have hEV := Lib.hid ((Ext.refl wq2).alloc (.cells #[.slice (some ⟨bl, oo, none⟩) 4 m3, .int .i64 z] 36))
              have hbq : ∀ b, (Value.slice pv2 k2 cv2).ownBlock = some b → b < wq2.heap.size := by
                obtain ⟨vs, ho, -⟩ := HV2.out
                exact fun b hb => (ho.lt b hb).2
              have HBQ := Lib.hid hbq
              have hgxq := lt_of_block HX2.out
              clear hbq
              go_wp2_with (fail)
              replace h0 := hEV.out.keep h0
              replace h1 := hEV.out.keep h1
              replace h2 := hEV.out.keep h2
              replace h3 := hEV.out.keep h3
              generalize wq2.alloc (.cells #[.slice (some ⟨bl, oo, none⟩) 4 m3, .int .i64 z] 36) = V at *
              generalize hga : wq2.heap.size = ga at *
              clear hga
              have hlga := lt_of_block hGA.out
              have hlgx : gx < V.heap.size := by omega
              obtain ⟨a0, a1, -, -⟩ := blk2 hGA.out
              obtain ⟨x0, x1, -, -⟩ := blk2 hGX.out
              have H0 := Lib.hid h0; have H1 := Lib.hid h1; have H2 := Lib.hid h2; have H3 := Lib.hid h3
              clear h0 h1 h2 h3
              have HK : ∀ W, Ext V W → ∀ j u, [Value.int .i64 ya, .int .i64 yb, .int .i64 yc, .int .i64 yd][j]? = some u → W.cell? ((⟨bl, oo, none⟩ : Addr).add j) = some u := by
                intro W hE j u hu
                match j, hu with
                | 0, hu => simp at hu; subst hu; exact hE.keep H0.out
                | 1, hu => simp at hu; subst hu; exact hE.keep H1.out
                | 2, hu => simp at hu; subst hu; exact hE.keep H2.out
                | 3, hu => simp at hu; subst hu; exact hE.keep H3.out
              have OA : Hid ((V.alloc (.cells #[] 3)).drew.ownsRow V.heap.size 3 1 (.slice (some ⟨V.heap.size, 0, none⟩) 0 0) 0 []) := Lib.hid (World.ownsRow_made V #[] 0 (Nat.le_refl _) (Nat.zero_le _) rfl)
              have EA0 := ((Ext.refl V).alloc (.cells #[] 3)).drew.keep a0
              have EA1 := ((Ext.refl V).alloc (.cells #[] 3)).drew.keep a1
              have HTL := Lib.hid (take_len hk2)
              have hMk : k2 ≤ 1000 := Nat.le_trans hk2 FA2.out.1
              refine wp_region_held_drew (S := (fun W' => W'.cell? ⟨ga, 0, none⟩ = some (.slice (some ⟨bl, oo, none⟩) 4 m3) ∧ W'.cell? ⟨ga, 1, none⟩ = some (.int .i64 z))) (by kernel_rfl) ⟨a0, a1⟩ (fun hHeld => ?_)
              refine wpAnyH_takeDw (some 66) (i := 0) (v := ?v0z2) rfl (by kernel_rfl) (by kernel_rfl) (by kernel_rfl) (by kernel_rfl) (fun _ _ _ h => h) (Or.inl ⟨by rfl, ?hy0z2⟩) (by assumption) ?r0z2
              case hy0z2 => intro w hSw; (try dsimp only at hSw); go_simp; first | done | with_reducible rfl
              case' r0z2 => try simp only [Act.put, List.setIfInBounds_toArray, List.set_cons_zero, List.set_cons_succ]
              refine wpAnyH_takeDw (some 69) (i := 3) (v := ?v3z2) rfl (by kernel_rfl) (by kernel_rfl) (by kernel_rfl) (by kernel_rfl) (fun _ _ _ h => h) (Or.inl ⟨by rfl, ?hy3z2⟩) (by assumption) ?r3z2
              case hy3z2 => intro w hSw; (try dsimp only at hSw); go_simp; first | done | with_reducible rfl
              case' r3z2 => try simp only [Act.put, List.setIfInBounds_toArray, List.set_cons_zero, List.set_cons_succ]
              refine wpAnyH_takeDw (some 70) (i := 4) (v := ?v4z2) rfl (by kernel_rfl) (by kernel_rfl) (by kernel_rfl) (by kernel_rfl) (fun _ _ _ h => h) (Or.inl ⟨by rfl, ?hy4z2⟩) (by assumption) ?r4z2
              case hy4z2 => intro w hSw; (try dsimp only at hSw); go_simp; first | done | with_reducible rfl
              case' r4z2 => try simp only [Act.put, List.setIfInBounds_toArray, List.set_cons_zero, List.set_cons_succ]
              refine wpAnyH_takeDw (some 72) (i := 6) (v := ?v6z2) rfl (by kernel_rfl) (by kernel_rfl) (by kernel_rfl) (by kernel_rfl) (fun _ _ _ h => h) (Or.inl ⟨by rfl, ?hy6z2⟩) (by assumption) ?r6z2
              case hy6z2 => intro w hSw; (try dsimp only at hSw); go_simp; first | done | with_reducible rfl
              case' r6z2 => try simp only [Act.put, List.setIfInBounds_toArray, List.set_cons_zero, List.set_cons_succ]
              refine wpAnyH_takeDw (some 73) (i := 7) (v := ?v7z2) rfl (by kernel_rfl) (by kernel_rfl) (by kernel_rfl) (by kernel_rfl) (fun _ _ _ h => h) (Or.inl ⟨by rfl, ?hy7z2⟩) (by assumption) ?r7z2
              case hy7z2 => intro w hSw; (try dsimp only at hSw); go_simp; first | done | with_reducible rfl
              case' r7z2 => try simp only [Act.put, List.setIfInBounds_toArray, List.set_cons_zero, List.set_cons_succ]
              refine wpAnyH_ready (rs := [1, 2]) (by kernel_rfl) (by simp) ?_
              refine AllReadyH.cons rfl (fun K hK => ?_) (AllReadyH.cons rfl (fun K hK => ?_) AllReadyH.nil)
              · skip
                go_simp
                refine hK.out _ _ ⟨a0, a1⟩ (fun hH1 => ?_)
                clear hK K
                try simp only [Act.put, List.setIfInBounds_toArray, List.set_cons_zero, List.set_cons_succ]
                refine wpAnyH_ready (rs := [2]) (by kernel_rfl) (by simp) ?_
                refine AllReadyH.cons rfl (fun K hK => ?_) AllReadyH.nil
                go_simp
                refine hK.out _ _ ⟨EA0, EA1⟩ (fun hH2 => ?_)
                clear hK K
                try simp only [Act.put, List.setIfInBounds_toArray, List.set_cons_zero, List.set_cons_succ]
                refine wpAnyH_ready (rs := [5]) (by kernel_rfl) (by simp) ?_
                refine AllReadyH.cons rfl (fun K hK => ?_) AllReadyH.nil
                (refine step_append_lies _ rfl (.tmp 68) (.tmp 70) 22 rfl V.heap.size 3 i0 (.int .i64 0) 1 8 underSliceInt hi hz0 hz1 hz2 rfl (by decide) (.slice (some ⟨V.heap.size, 0, none⟩) 0 0) 0 [] rfl OA.out ⟨bl, oo, none⟩ 4 m3 [.int .i64 ya, .int .i64 yb, .int .i64 yc, .int .i64 yd] rfl rfl (HK _ ((Ext.refl V).alloc (.cells #[] 3)).drew) (by intro u hu; simp at hu; rcases hu with rfl | rfl | rfl | rfl <;> rfl) (by omega) (by unfold maxLen; omega) (by omega) (by simp <;> omega) _ rfl ?_; intro g cap' w1 hown hgrow hgeq _; have EX : Ext V w1 := Ext.grown (((Ext.refl V).alloc (.cells #[] 3)).drew) hgrow (fun b hb => by have hb' : V.heap.size = b := Option.some.inj hb; omega); have x0' := EX.keep x0; have x1' := EX.keep x1; have b0' := EX.keep a0; have b1' := EX.keep a1; have b0'' := (EX.alloc (.cells #[.slice (some ⟨g, 0, none⟩) 4 cap', .int .i64 z] 36)).keep a0; have b1'' := (EX.alloc (.cells #[.slice (some ⟨g, 0, none⟩) 4 cap', .int .i64 z] 36)).keep a1; have hl1 : gx < w1.heap.size := Nat.lt_of_lt_of_le hlgx EX.size_le)
                refine hK.out _ _ ⟨b0', b1'⟩ (fun hH3 => ?_)
                clear hK K
                try simp only [Act.put, List.setIfInBounds_toArray, List.set_cons_zero, List.set_cons_succ]
                refine wpAnyH_takeDw (some 74) (i := 8) (v := ?v8_4z2) rfl (by kernel_rfl) (by kernel_rfl) (by kernel_rfl) (by kernel_rfl) (fun _ _ _ h => h) (Or.inl ⟨by rfl, ?hy8_4z2⟩) (by assumption) ?r8_4z2
                case hy8_4z2 => intro w hSw; (try dsimp only at hSw); go_simp; first | done | with_reducible rfl
                case' r8_4z2 => try simp only [Act.put, List.setIfInBounds_toArray, List.set_cons_zero, List.set_cons_succ]
                refine wpAnyH_ready (rs := [9]) (by kernel_rfl) (by simp) ?_
                refine AllReadyH.cons rfl (fun K hK => ?_) AllReadyH.nil
                go_simp
                refine hK.out _ _ ⟨b0'', b1''⟩ (fun hH5 => ?_)
                clear hK K
                try simp only [Act.put, List.setIfInBounds_toArray, List.set_cons_zero, List.set_cons_succ]
                refine wpAnyH_ready (rs := [10]) (by kernel_rfl) (by simp) ?_
                refine AllReadyH.cons rfl (fun K hK => ?_) AllReadyH.nil
                (have EXA : Ext V (w1.alloc (.cells #[.slice (some ⟨g, 0, none⟩) 4 cap', .int .i64 z] 36)) := EX.alloc _; obtain ⟨vs, ho, he⟩ := AffsOwn.ext hVV.out EXA; rw [HTL.out] at ho; have hvl := ho.1; refine step_append_lies _ rfl (.tmp 67) (.tmp 75) 49 rfl wq.heap.size 36 i1 (.agg #[.slice none 0 0, .int .i64 0]) 2 32 underSliceAff ha hy0 hy1 hy2 rfl (by decide) (.slice pv2 k2 cv2) k2 vs rfl ho ⟨w1.heap.size, 0, none⟩ 1 1 [.slice (some ⟨g, 0, none⟩) 4 cap', .int .i64 z] rfl rfl (pair_cells rfl) (by intro u hu; simp at hu; rcases hu with rfl | rfl <;> rfl) (by omega) (by unfold maxLen; omega) (by omega) (by have := EX.size_le; simp <;> omega) _ rfl ?_; intro gn cn w4 hown' hgrow' hgeq' hltg; have htag := own_tag ho; have GX4 := blk_tag (EXA.blk hGX.out) hgrow' htag (by decide); have GA4 := grownBy_blk hgrow' (EXA.blk hGA.out) (fun e => by have := HBQ.out _ e.symm; omega); obtain ⟨s0', s1', -, -⟩ := blk2 GA4; obtain ⟨y0', y1', f0', f1'⟩ := blk2 GX4; have s0'' := (cell_setAt (g := gx) (o := 1) (.slice (some ⟨gn, 0, none⟩) (k2 + 1) cn) (show ga ≠ gx by omega)).trans s0'; have s1'' := (cell_setAt (g := gx) (o := 1) (.slice (some ⟨gn, 0, none⟩) (k2 + 1) cn) (show ga ≠ gx by omega)).trans s1'; have hres : AffsOwn wq.heap.size w4 (.slice (some ⟨gn, 0, none⟩) (k2 + 1) cn) (x.2.take k2 ++ [([ya, yb, yc, yd], z)]) := PairsOwn.push (R := AffO) (fun h a b => AffO.grow h a b) HTL.out he hvl hown' hgrow' htag ⟨(IntsOwn.weak (IntsOwn.mk hown rfl) (by have := hDV.out.size; omega)).ext ((Ext.refl w1).alloc _), rfl⟩; have hDr := (hDV.out.ext EXA).fresh hgrow' (fun b hb => (ho.lt b hb).1))
                refine hK.out _ _ ⟨s0', s1'⟩ (fun hH6 => ?_)
                clear hK K
                try simp only [Act.put, List.setIfInBounds_toArray, List.set_cons_zero, List.set_cons_succ]
                refine wpAnyH_takeDw (some 77) (i := 11) (v := ?v11_7z2) rfl (by kernel_rfl) (by kernel_rfl) (by kernel_rfl) (by kernel_rfl) (fun _ _ _ h => h) (Or.inl ⟨by rfl, ?hy11_7z2⟩) (by assumption) ?r11_7z2
                case hy11_7z2 => intro w hSw; (try dsimp only at hSw); go_simp; first | done | with_reducible rfl
                case' r11_7z2 => try simp only [Act.put, List.setIfInBounds_toArray, List.set_cons_zero, List.set_cons_succ]
                refine wpAnyH_ready (rs := [12]) (by kernel_rfl) (by simp) ?_
                refine AllReadyH.cons rfl (fun K hK => ?_) AllReadyH.nil
                go_simp
                refine hK.out _ _ ⟨s0'', s1''⟩ (fun hH8 => ?_)
                clear hK K
                try simp only [Act.put, List.setIfInBounds_toArray, List.set_cons_zero, List.set_cons_succ]
                refine wpAnyH_done (by kernel_rfl) ?_ _
                rw [← take_next HY.out] at hres
                have HRS := Lib.hid (AffsOwn.tag' hres (grown_set w4 gx 1 (.slice (some ⟨gn, 0, none⟩) (k2 + 1) cn)) (Tag.blk GX4) (by decide) (by decide)); have HDD := Lib.hid (Dr.trans hDr (grown_set w4 gx 1 (.slice (some ⟨gn, 0, none⟩) (k2 + 1) cn))); have HGX := Lib.hid (blk2_set1' (c := .slice (some ⟨gn, 0, none⟩) (k2 + 1) cn) GX4)
                clear hres hDr GX4 GA4 htag s0' s1' s0'' s1'' b0' b1' b0'' b1'' x0' x1' EX EXA
                go_wp2
                go_roundw
                case rel => exact ⟨k2 + 1, _, by omega, by go_num, HGX.out, HRS.out, HDD.out⟩
                case measure => simp [intOf]; omega
              · skip
                go_simp
                refine hK.out _ _ ⟨EA0, EA1⟩ (fun hH9 => ?_)
                clear hK K
                try simp only [Act.put, List.setIfInBounds_toArray, List.set_cons_zero, List.set_cons_succ]
                refine wpAnyH_ready (rs := [1, 5]) (by kernel_rfl) (by simp) ?_
                refine AllReadyH.cons rfl (fun K hK => ?_) (AllReadyH.cons rfl (fun K hK => ?_) AllReadyH.nil)
                · skip
                  go_simp
                  refine hK.out _ _ ⟨EA0, EA1⟩ (fun hH10 => ?_)
                  clear hK K
                  try simp only [Act.put, List.setIfInBounds_toArray, List.set_cons_zero, List.set_cons_succ]
                  refine wpAnyH_ready (rs := [5]) (by kernel_rfl) (by simp) ?_
                  refine AllReadyH.cons rfl (fun K hK => ?_) AllReadyH.nil
                  (refine step_append_lies _ rfl (.tmp 68) (.tmp 70) 22 rfl V.heap.size 3 i0 (.int .i64 0) 1 8 underSliceInt hi hz0 hz1 hz2 rfl (by decide) (.slice (some ⟨V.heap.size, 0, none⟩) 0 0) 0 [] rfl OA.out ⟨bl, oo, none⟩ 4 m3 [.int .i64 ya, .int .i64 yb, .int .i64 yc, .int .i64 yd] rfl rfl (HK _ ((Ext.refl V).alloc (.cells #[] 3)).drew) (by intro u hu; simp at hu; rcases hu with rfl | rfl | rfl | rfl <;> rfl) (by omega) (by unfold maxLen; omega) (by omega) (by simp <;> omega) _ rfl ?_; intro g cap' w1 hown hgrow hgeq _; have EX : Ext V w1 := Ext.grown (((Ext.refl V).alloc (.cells #[] 3)).drew) hgrow (fun b hb => by have hb' : V.heap.size = b := Option.some.inj hb; omega); have x0' := EX.keep x0; have x1' := EX.keep x1; have b0' := EX.keep a0; have b1' := EX.keep a1; have b0'' := (EX.alloc (.cells #[.slice (some ⟨g, 0, none⟩) 4 cap', .int .i64 z] 36)).keep a0; have b1'' := (EX.alloc (.cells #[.slice (some ⟨g, 0, none⟩) 4 cap', .int .i64 z] 36)).keep a1; have hl1 : gx < w1.heap.size := Nat.lt_of_lt_of_le hlgx EX.size_le)
                  refine hK.out _ _ ⟨b0', b1'⟩ (fun hH11 => ?_)
                  clear hK K
                  try simp only [Act.put, List.setIfInBounds_toArray, List.set_cons_zero, List.set_cons_succ]
                  refine wpAnyH_takeDw (some 74) (i := 8) (v := ?v8_12z2) rfl (by kernel_rfl) (by kernel_rfl) (by kernel_rfl) (by kernel_rfl) (fun _ _ _ h => h) (Or.inl ⟨by rfl, ?hy8_12z2⟩) (by assumption) ?r8_12z2
                  case hy8_12z2 => intro w hSw; (try dsimp only at hSw); go_simp; first | done | with_reducible rfl
                  case' r8_12z2 => try simp only [Act.put, List.setIfInBounds_toArray, List.set_cons_zero, List.set_cons_succ]
                  refine wpAnyH_ready (rs := [9]) (by kernel_rfl) (by simp) ?_
                  refine AllReadyH.cons rfl (fun K hK => ?_) AllReadyH.nil
                  go_simp
                  refine hK.out _ _ ⟨b0'', b1''⟩ (fun hH13 => ?_)
                  clear hK K
                  try simp only [Act.put, List.setIfInBounds_toArray, List.set_cons_zero, List.set_cons_succ]
                  refine wpAnyH_ready (rs := [10]) (by kernel_rfl) (by simp) ?_
                  refine AllReadyH.cons rfl (fun K hK => ?_) AllReadyH.nil
                  (have EXA : Ext V (w1.alloc (.cells #[.slice (some ⟨g, 0, none⟩) 4 cap', .int .i64 z] 36)) := EX.alloc _; obtain ⟨vs, ho, he⟩ := AffsOwn.ext hVV.out EXA; rw [HTL.out] at ho; have hvl := ho.1; refine step_append_lies _ rfl (.tmp 67) (.tmp 75) 49 rfl wq.heap.size 36 i1 (.agg #[.slice none 0 0, .int .i64 0]) 2 32 underSliceAff ha hy0 hy1 hy2 rfl (by decide) (.slice pv2 k2 cv2) k2 vs rfl ho ⟨w1.heap.size, 0, none⟩ 1 1 [.slice (some ⟨g, 0, none⟩) 4 cap', .int .i64 z] rfl rfl (pair_cells rfl) (by intro u hu; simp at hu; rcases hu with rfl | rfl <;> rfl) (by omega) (by unfold maxLen; omega) (by omega) (by have := EX.size_le; simp <;> omega) _ rfl ?_; intro gn cn w4 hown' hgrow' hgeq' hltg; have htag := own_tag ho; have GX4 := blk_tag (EXA.blk hGX.out) hgrow' htag (by decide); have GA4 := grownBy_blk hgrow' (EXA.blk hGA.out) (fun e => by have := HBQ.out _ e.symm; omega); obtain ⟨s0', s1', -, -⟩ := blk2 GA4; obtain ⟨y0', y1', f0', f1'⟩ := blk2 GX4; have s0'' := (cell_setAt (g := gx) (o := 1) (.slice (some ⟨gn, 0, none⟩) (k2 + 1) cn) (show ga ≠ gx by omega)).trans s0'; have s1'' := (cell_setAt (g := gx) (o := 1) (.slice (some ⟨gn, 0, none⟩) (k2 + 1) cn) (show ga ≠ gx by omega)).trans s1'; have hres : AffsOwn wq.heap.size w4 (.slice (some ⟨gn, 0, none⟩) (k2 + 1) cn) (x.2.take k2 ++ [([ya, yb, yc, yd], z)]) := PairsOwn.push (R := AffO) (fun h a b => AffO.grow h a b) HTL.out he hvl hown' hgrow' htag ⟨(IntsOwn.weak (IntsOwn.mk hown rfl) (by have := hDV.out.size; omega)).ext ((Ext.refl w1).alloc _), rfl⟩; have hDr := (hDV.out.ext EXA).fresh hgrow' (fun b hb => (ho.lt b hb).1))
                  refine hK.out _ _ ⟨s0', s1'⟩ (fun hH14 => ?_)
                  clear hK K
                  try simp only [Act.put, List.setIfInBounds_toArray, List.set_cons_zero, List.set_cons_succ]
                  refine wpAnyH_takeDw (some 77) (i := 11) (v := ?v11_15z2) rfl (by kernel_rfl) (by kernel_rfl) (by kernel_rfl) (by kernel_rfl) (fun _ _ _ h => h) (Or.inl ⟨by rfl, ?hy11_15z2⟩) (by assumption) ?r11_15z2
                  case hy11_15z2 => intro w hSw; (try dsimp only at hSw); go_simp; first | done | with_reducible rfl
                  case' r11_15z2 => try simp only [Act.put, List.setIfInBounds_toArray, List.set_cons_zero, List.set_cons_succ]
                  refine wpAnyH_ready (rs := [12]) (by kernel_rfl) (by simp) ?_
                  refine AllReadyH.cons rfl (fun K hK => ?_) AllReadyH.nil
                  go_simp
                  refine hK.out _ _ ⟨s0'', s1''⟩ (fun hH16 => ?_)
                  clear hK K
                  try simp only [Act.put, List.setIfInBounds_toArray, List.set_cons_zero, List.set_cons_succ]
                  refine wpAnyH_done (by kernel_rfl) ?_ _
                  rw [← take_next HY.out] at hres
                  have HRS := Lib.hid (AffsOwn.tag' hres (grown_set w4 gx 1 (.slice (some ⟨gn, 0, none⟩) (k2 + 1) cn)) (Tag.blk GX4) (by decide) (by decide)); have HDD := Lib.hid (Dr.trans hDr (grown_set w4 gx 1 (.slice (some ⟨gn, 0, none⟩) (k2 + 1) cn))); have HGX := Lib.hid (blk2_set1' (c := .slice (some ⟨gn, 0, none⟩) (k2 + 1) cn) GX4)
                  clear hres hDr GX4 GA4 htag s0' s1' s0'' s1'' b0' b1' b0'' b1'' x0' x1' EX EXA
                  go_wp2
                  go_roundw
                  case rel => exact ⟨k2 + 1, _, by omega, by go_num, HGX.out, HRS.out, HDD.out⟩
                  case measure => simp [intOf]; omega
                · skip
                  (refine step_append_lies _ rfl (.tmp 68) (.tmp 70) 22 rfl V.heap.size 3 i0 (.int .i64 0) 1 8 underSliceInt hi hz0 hz1 hz2 rfl (by decide) (.slice (some ⟨V.heap.size, 0, none⟩) 0 0) 0 [] rfl OA.out ⟨bl, oo, none⟩ 4 m3 [.int .i64 ya, .int .i64 yb, .int .i64 yc, .int .i64 yd] rfl rfl (HK _ ((Ext.refl V).alloc (.cells #[] 3)).drew) (by intro u hu; simp at hu; rcases hu with rfl | rfl | rfl | rfl <;> rfl) (by omega) (by unfold maxLen; omega) (by omega) (by simp <;> omega) _ rfl ?_; intro g cap' w1 hown hgrow hgeq _; have EX : Ext V w1 := Ext.grown (((Ext.refl V).alloc (.cells #[] 3)).drew) hgrow (fun b hb => by have hb' : V.heap.size = b := Option.some.inj hb; omega); have x0' := EX.keep x0; have x1' := EX.keep x1; have b0' := EX.keep a0; have b1' := EX.keep a1; have b0'' := (EX.alloc (.cells #[.slice (some ⟨g, 0, none⟩) 4 cap', .int .i64 z] 36)).keep a0; have b1'' := (EX.alloc (.cells #[.slice (some ⟨g, 0, none⟩) 4 cap', .int .i64 z] 36)).keep a1; have hl1 : gx < w1.heap.size := Nat.lt_of_lt_of_le hlgx EX.size_le)
                  refine hK.out _ _ ⟨b0', b1'⟩ (fun hH17 => ?_)
                  clear hK K
                  try simp only [Act.put, List.setIfInBounds_toArray, List.set_cons_zero, List.set_cons_succ]
                  refine wpAnyH_takeDw (some 74) (i := 8) (v := ?v8_18z2) rfl (by kernel_rfl) (by kernel_rfl) (by kernel_rfl) (by kernel_rfl) (fun _ _ _ h => h) (Or.inl ⟨by rfl, ?hy8_18z2⟩) (by assumption) ?r8_18z2
                  case hy8_18z2 => intro w hSw; (try dsimp only at hSw); go_simp; first | done | with_reducible rfl
                  case' r8_18z2 => try simp only [Act.put, List.setIfInBounds_toArray, List.set_cons_zero, List.set_cons_succ]
                  refine wpAnyH_ready (rs := [1, 9]) (by kernel_rfl) (by simp) ?_
                  refine AllReadyH.cons rfl (fun K hK => ?_) (AllReadyH.cons rfl (fun K hK => ?_) AllReadyH.nil)
                  · skip
                    go_simp
                    refine hK.out _ _ ⟨b0', b1'⟩ (fun hH19 => ?_)
                    clear hK K
                    try simp only [Act.put, List.setIfInBounds_toArray, List.set_cons_zero, List.set_cons_succ]
                    refine wpAnyH_ready (rs := [9]) (by kernel_rfl) (by simp) ?_
                    refine AllReadyH.cons rfl (fun K hK => ?_) AllReadyH.nil
                    go_simp
                    refine hK.out _ _ ⟨b0'', b1''⟩ (fun hH20 => ?_)
                    clear hK K
                    try simp only [Act.put, List.setIfInBounds_toArray, List.set_cons_zero, List.set_cons_succ]
                    refine wpAnyH_ready (rs := [10]) (by kernel_rfl) (by simp) ?_
                    refine AllReadyH.cons rfl (fun K hK => ?_) AllReadyH.nil
                    (have EXA : Ext V (w1.alloc (.cells #[.slice (some ⟨g, 0, none⟩) 4 cap', .int .i64 z] 36)) := EX.alloc _; obtain ⟨vs, ho, he⟩ := AffsOwn.ext hVV.out EXA; rw [HTL.out] at ho; have hvl := ho.1; refine step_append_lies _ rfl (.tmp 67) (.tmp 75) 49 rfl wq.heap.size 36 i1 (.agg #[.slice none 0 0, .int .i64 0]) 2 32 underSliceAff ha hy0 hy1 hy2 rfl (by decide) (.slice pv2 k2 cv2) k2 vs rfl ho ⟨w1.heap.size, 0, none⟩ 1 1 [.slice (some ⟨g, 0, none⟩) 4 cap', .int .i64 z] rfl rfl (pair_cells rfl) (by intro u hu; simp at hu; rcases hu with rfl | rfl <;> rfl) (by omega) (by unfold maxLen; omega) (by omega) (by have := EX.size_le; simp <;> omega) _ rfl ?_; intro gn cn w4 hown' hgrow' hgeq' hltg; have htag := own_tag ho; have GX4 := blk_tag (EXA.blk hGX.out) hgrow' htag (by decide); have GA4 := grownBy_blk hgrow' (EXA.blk hGA.out) (fun e => by have := HBQ.out _ e.symm; omega); obtain ⟨s0', s1', -, -⟩ := blk2 GA4; obtain ⟨y0', y1', f0', f1'⟩ := blk2 GX4; have s0'' := (cell_setAt (g := gx) (o := 1) (.slice (some ⟨gn, 0, none⟩) (k2 + 1) cn) (show ga ≠ gx by omega)).trans s0'; have s1'' := (cell_setAt (g := gx) (o := 1) (.slice (some ⟨gn, 0, none⟩) (k2 + 1) cn) (show ga ≠ gx by omega)).trans s1'; have hres : AffsOwn wq.heap.size w4 (.slice (some ⟨gn, 0, none⟩) (k2 + 1) cn) (x.2.take k2 ++ [([ya, yb, yc, yd], z)]) := PairsOwn.push (R := AffO) (fun h a b => AffO.grow h a b) HTL.out he hvl hown' hgrow' htag ⟨(IntsOwn.weak (IntsOwn.mk hown rfl) (by have := hDV.out.size; omega)).ext ((Ext.refl w1).alloc _), rfl⟩; have hDr := (hDV.out.ext EXA).fresh hgrow' (fun b hb => (ho.lt b hb).1))
                    refine hK.out _ _ ⟨s0', s1'⟩ (fun hH21 => ?_)
                    clear hK K
                    try simp only [Act.put, List.setIfInBounds_toArray, List.set_cons_zero, List.set_cons_succ]
                    refine wpAnyH_takeDw (some 77) (i := 11) (v := ?v11_22z2) rfl (by kernel_rfl) (by kernel_rfl) (by kernel_rfl) (by kernel_rfl) (fun _ _ _ h => h) (Or.inl ⟨by rfl, ?hy11_22z2⟩) (by assumption) ?r11_22z2
                    case hy11_22z2 => intro w hSw; (try dsimp only at hSw); go_simp; first | done | with_reducible rfl
                    case' r11_22z2 => try simp only [Act.put, List.setIfInBounds_toArray, List.set_cons_zero, List.set_cons_succ]
                    refine wpAnyH_ready (rs := [12]) (by kernel_rfl) (by simp) ?_
                    refine AllReadyH.cons rfl (fun K hK => ?_) AllReadyH.nil
                    go_simp
                    refine hK.out _ _ ⟨s0'', s1''⟩ (fun hH23 => ?_)
                    clear hK K
                    try simp only [Act.put, List.setIfInBounds_toArray, List.set_cons_zero, List.set_cons_succ]
                    refine wpAnyH_done (by kernel_rfl) ?_ _
                    rw [← take_next HY.out] at hres
                    have HRS := Lib.hid (AffsOwn.tag' hres (grown_set w4 gx 1 (.slice (some ⟨gn, 0, none⟩) (k2 + 1) cn)) (Tag.blk GX4) (by decide) (by decide)); have HDD := Lib.hid (Dr.trans hDr (grown_set w4 gx 1 (.slice (some ⟨gn, 0, none⟩) (k2 + 1) cn))); have HGX := Lib.hid (blk2_set1' (c := .slice (some ⟨gn, 0, none⟩) (k2 + 1) cn) GX4)
                    clear hres hDr GX4 GA4 htag s0' s1' s0'' s1'' b0' b1' b0'' b1'' x0' x1' EX EXA
                    go_wp2
                    go_roundw
                    case rel => exact ⟨k2 + 1, _, by omega, by go_num, HGX.out, HRS.out, HDD.out⟩
                    case measure => simp [intOf]; omega
                  · skip
                    go_simp
                    refine hK.out _ _ ⟨b0'', b1''⟩ (fun hH24 => ?_)
                    clear hK K
                    try simp only [Act.put, List.setIfInBounds_toArray, List.set_cons_zero, List.set_cons_succ]
                    refine wpAnyH_ready (rs := [1]) (by kernel_rfl) (by simp) ?_
                    refine AllReadyH.cons rfl (fun K hK => ?_) AllReadyH.nil
                    go_simp
                    refine hK.out _ _ ⟨b0'', b1''⟩ (fun hH25 => ?_)
                    clear hK K
                    try simp only [Act.put, List.setIfInBounds_toArray, List.set_cons_zero, List.set_cons_succ]
                    refine wpAnyH_ready (rs := [10]) (by kernel_rfl) (by simp) ?_
                    refine AllReadyH.cons rfl (fun K hK => ?_) AllReadyH.nil
                    (have EXA : Ext V (w1.alloc (.cells #[.slice (some ⟨g, 0, none⟩) 4 cap', .int .i64 z] 36)) := EX.alloc _; obtain ⟨vs, ho, he⟩ := AffsOwn.ext hVV.out EXA; rw [HTL.out] at ho; have hvl := ho.1; refine step_append_lies _ rfl (.tmp 67) (.tmp 75) 49 rfl wq.heap.size 36 i1 (.agg #[.slice none 0 0, .int .i64 0]) 2 32 underSliceAff ha hy0 hy1 hy2 rfl (by decide) (.slice pv2 k2 cv2) k2 vs rfl ho ⟨w1.heap.size, 0, none⟩ 1 1 [.slice (some ⟨g, 0, none⟩) 4 cap', .int .i64 z] rfl rfl (pair_cells rfl) (by intro u hu; simp at hu; rcases hu with rfl | rfl <;> rfl) (by omega) (by unfold maxLen; omega) (by omega) (by have := EX.size_le; simp <;> omega) _ rfl ?_; intro gn cn w4 hown' hgrow' hgeq' hltg; have htag := own_tag ho; have GX4 := blk_tag (EXA.blk hGX.out) hgrow' htag (by decide); have GA4 := grownBy_blk hgrow' (EXA.blk hGA.out) (fun e => by have := HBQ.out _ e.symm; omega); obtain ⟨s0', s1', -, -⟩ := blk2 GA4; obtain ⟨y0', y1', f0', f1'⟩ := blk2 GX4; have s0'' := (cell_setAt (g := gx) (o := 1) (.slice (some ⟨gn, 0, none⟩) (k2 + 1) cn) (show ga ≠ gx by omega)).trans s0'; have s1'' := (cell_setAt (g := gx) (o := 1) (.slice (some ⟨gn, 0, none⟩) (k2 + 1) cn) (show ga ≠ gx by omega)).trans s1'; have hres : AffsOwn wq.heap.size w4 (.slice (some ⟨gn, 0, none⟩) (k2 + 1) cn) (x.2.take k2 ++ [([ya, yb, yc, yd], z)]) := PairsOwn.push (R := AffO) (fun h a b => AffO.grow h a b) HTL.out he hvl hown' hgrow' htag ⟨(IntsOwn.weak (IntsOwn.mk hown rfl) (by have := hDV.out.size; omega)).ext ((Ext.refl w1).alloc _), rfl⟩; have hDr := (hDV.out.ext EXA).fresh hgrow' (fun b hb => (ho.lt b hb).1))
                    refine hK.out _ _ ⟨s0', s1'⟩ (fun hH26 => ?_)
                    clear hK K
                    try simp only [Act.put, List.setIfInBounds_toArray, List.set_cons_zero, List.set_cons_succ]
                    refine wpAnyH_takeDw (some 77) (i := 11) (v := ?v11_27z2) rfl (by kernel_rfl) (by kernel_rfl) (by kernel_rfl) (by kernel_rfl) (fun _ _ _ h => h) (Or.inl ⟨by rfl, ?hy11_27z2⟩) (by assumption) ?r11_27z2
                    case hy11_27z2 => intro w hSw; (try dsimp only at hSw); go_simp; first | done | with_reducible rfl
                    case' r11_27z2 => try simp only [Act.put, List.setIfInBounds_toArray, List.set_cons_zero, List.set_cons_succ]
                    refine wpAnyH_ready (rs := [12]) (by kernel_rfl) (by simp) ?_
                    refine AllReadyH.cons rfl (fun K hK => ?_) AllReadyH.nil
                    go_simp
                    refine hK.out _ _ ⟨s0'', s1''⟩ (fun hH28 => ?_)
                    clear hK K
                    try simp only [Act.put, List.setIfInBounds_toArray, List.set_cons_zero, List.set_cons_succ]
                    refine wpAnyH_done (by kernel_rfl) ?_ _
                    rw [← take_next HY.out] at hres
                    have HRS := Lib.hid (AffsOwn.tag' hres (grown_set w4 gx 1 (.slice (some ⟨gn, 0, none⟩) (k2 + 1) cn)) (Tag.blk GX4) (by decide) (by decide)); have HDD := Lib.hid (Dr.trans hDr (grown_set w4 gx 1 (.slice (some ⟨gn, 0, none⟩) (k2 + 1) cn))); have HGX := Lib.hid (blk2_set1' (c := .slice (some ⟨gn, 0, none⟩) (k2 + 1) cn) GX4)
                    clear hres hDr GX4 GA4 htag s0' s1' s0'' s1'' b0' b1' b0'' b1'' x0' x1' EX EXA
                    go_wp2
                    go_roundw
                    case rel => exact ⟨k2 + 1, _, by omega, by go_num, HGX.out, HRS.out, HDD.out⟩
                    case measure => simp [intOf]; omega
            · have hV2 := HV2.out
              have hwaw := HE.out.size_le
              have hw0w := hGX0E.out.size_le
              rw [List.take_of_length_le (by omega)] at hV2
              have hV1 := AffsOwn.dr HVA.out HD2.out (by omega)
              obtain ⟨vs, hoa, hea, hnd⟩ := HV.out
              have hnl0 := blks_lt (ls := ls.take k) hoa.1 hea
              have HNL : Hid (∀ b ∈ blks vs, b < W0.heap.size) := Lib.hid (fun b hb => by have := hnl0 b hb; omega)
              have HND := Lib.hid hnd
              have EW := hEq2.trans ((Ext.refl wq2).alloc (.cells #[.slice pv k1 cv1, .slice pv2 k2 cv2] 75))
              have ho := ownsRow_ext hoa EW
              have HHE : Hid (∀ i y, (ls.take k)[i]? = some y → ∃ t0 t1, vs[i * 2]? = some t0 ∧ vs[i * 2 + 1]? = some t1 ∧ LoopO w.heap.size (wq2.alloc (.cells #[.slice pv k1 cv1, .slice pv2 k2 cv2] 75)) t0 t1 y) := Lib.hid (fun i y hi => by obtain ⟨t0, t1, g0, g1, g2⟩ := hea i y hi; exact ⟨t0, t1, g0, g1, g2.ext' EW⟩)
              clear hoa hea hnd hnl0 EW
              have hb0 : ∀ b, (Value.slice pv k1 cv1).ownBlock = some b → W0.heap.size ≤ b ∧ b < wq.heap.size := by obtain ⟨_, o, -⟩ := HVA.out; exact fun b hb => o.lt b hb
              have hb1 : ∀ b, (Value.slice pv2 k2 cv2).ownBlock = some b → wq.heap.size ≤ b := by obtain ⟨_, o, -⟩ := HV2.out; exact fun b hb => (o.lt b hb).1
              have HB0 := Lib.hid hb0; have HB1 := Lib.hid hb1; clear hb0 hb1
              have HVA2 := Lib.hid (AffsOwn.ext hV1 ((Ext.refl wq2).alloc (.cells #[.slice pv k1 cv1, .slice pv2 k2 cv2] 75)))
              have HVB2 := Lib.hid (AffsOwn.ext hV2 ((Ext.refl wq2).alloc (.cells #[.slice pv k1 cv1, .slice pv2 k2 cv2] 75)))
              have HE5 := Lib.hid (HE.out.trans (hEq2.trans ((Ext.refl wq2).alloc (.cells #[.slice pv k1 cv1, .slice pv2 k2 cv2] 75))))
              have htl : (ls.take k).length = k := take_len (by rw [HN.out]; omega)
              have HTL := Lib.hid htl
              rw [htl] at ho
              have hvl := ho.1
              have hkb : k ≤ 1000 := by have := HF.out.1; rw [HN.out] at this; omega
              obtain ⟨g0, g1, -, -⟩ := blk2 HX2.out
              have hbase : w.heap.size ≤ wq2.heap.size + 1 := by have := HE5.out.size_le; simp at this; omega
              clear hV1 hV2 HV2 HVA htl
              go_wp2_with (at_builtin; refine wpList_append_own_at _ rfl (.tmp 78) (.tmp 80) 34 rfl w.heap.size 75 i2 (.agg #[.slice none 0 0, .slice none 0 0]) 2 48 underSliceLp hb hx0 hx1 hx2 rfl (by decide) (.slice (some ⟨gv, 0, none⟩) k cv) k vs rfl ho ⟨wq2.heap.size, 0, none⟩ 1 1 [.slice pv k1 cv1, .slice pv2 k2 cv2] rfl rfl ?c1 ?c2 ?c3 ?c4 ?c5 ?_)
              case c1 => exact pair_cells rfl
              case c2 => intro u hu; simp at hu; rcases hu with rfl | rfl <;> rfl
              case c3 => unfold maxLen; omega
              case c4 => omega
              case c5 => simp; omega
              intro v' w4 hown' hgrow hnil hat
              have hne : v' ≠ .slice none 0 0 := by intro e; have := hnil; simp [e] at this
              obtain ⟨gn, cn, rfl, hcn⟩ := own_form' hown' hne
              have hres : LoopsSep w.heap.size w4 (.slice (some ⟨gn, 0, none⟩) (k + 1) cn) (ls.take k ++ [x]) := LoopsSep.push (N := W0.heap.size) (M := wq.heap.size) HTL.out HHE.out hvl hown' hgrow (own_tag ho) ⟨AffsOwn.weak HVA2.out (by omega), AffsOwn.weak HVB2.out (by omega)⟩ HND.out HNL.out hszm HB0.out HB1.out
              rw [← take_next HX.out] at hres
              have hE6 : Ext w w4 := HE5.out.grown hgrow (fun b hb => (ho.lt b hb).1)
              have HRS := Lib.hid hres; have HE6 := Lib.hid hE6
              clear hres hE6 hown' hgrow hnil hat hne ho
              go_wp2
              go_roundw
              case rel => exact ⟨k + 1, gn, cn, by omega, by go_num, rfl, HRS.out, HE6.out⟩
              case measure => simp [intOf]; omega
    · have e : k = n := by omega
      subst e
      have hv := HV.out
      rw [List.take_of_length_le (by rw [HN.out]; omega)] at hv
      have HVV := Lib.hid hv; clear hv
      go_wp2
      go_ret
      exact ⟨⟨_, _, rfl, HVV.out⟩, HE.out⟩
end Go.Proofs.Ytccibfldadflkaa
