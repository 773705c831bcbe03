/- The texts V6, joined. No statement is proved here. -/
import Derived.Test.YtggpjapmhakklaaGreatQL31
import Derived.Test.YtggpjapmhakklaaGreatQL16
import Derived.Test.YtggpjapmhakklaaGreatQL27
set_option maxRecDepth 100000
set_option maxHeartbeats 8000000
set_option linter.unusedVariables false
set_option linter.unusedSimpArgs false
namespace Go.Proofs.YtggpjapmhakklaaGreat
open Go.Lib (hid)
open Go.RowKit
attribute [local go_sem] Oper.semAt_some
abbrev In := (Nat × Nat × Value) × (Value × Value × Value)
abbrev PrtV := List Value × List (Value × Value × Value)
def encI (x : In) : Array Value := #[.agg #[.int .i64 (x.1.1 : Int), .int .i64 (x.1.2.1 : Int), x.1.2.2], .agg #[x.2.1, x.2.2.1, x.2.2.2]]
def insF (i : Nat) (us : List (Value × Value × Value)) (x : Value × Nat) : In := ((i, x.2, x.1), us.getD x.2 (undef, undef, undef))
def insP (i : Nat) (p : PrtV) : List In := (visL p.1 p.2.length).map (insF i p.2)
def insT (prts : List PrtV) (i : Nat) : List In := (List.range i).flatMap (fun j => insP j (prts.getD j ([], [])))
theorem insT_next {prts : List PrtV} {i : Nat} {p : PrtV} (h : prts[i]? = some p) : insT prts (i + 1) = insT prts i ++ insP i p := by
 simp [insT, List.range_succ, List.getD_eq_getElem?_getD, h]
theorem insT_pre {prts : List PrtV} {i : Nat} {p : PrtV} (h : prts[i]? = some p) : (insT prts i ++ insP i p) <+: insT prts prts.length := by
 have hlt := (List.getElem?_eq_some_iff.1 h).1
 obtain ⟨t, ht⟩ := range_pre hlt
 refine ⟨t.flatMap (fun j => insP j (prts.getD j ([], []))), ?_⟩
 rw [← insT_next h]
 simp only [insT]
 rw [ht, List.flatMap_append, ← List.range_succ]
def flat3 (us : List (Value × Value × Value)) : List Value := us.flatMap (fun u => [u.1, u.2.1, u.2.2])
theorem flat3_get : ∀ {us : List (Value × Value × Value)} {k : Nat} {u : Value × Value × Value}, us[k]? = some u → (flat3 us)[k * 3]? = some u.1 ∧ (flat3 us)[k * 3 + 1]? = some u.2.1 ∧ (flat3 us)[k * 3 + 2]? = some u.2.2
 | [], _, _, h => by simp at h
 | x :: r, 0, u, h => by simp at h; subst h; simp [flat3]
 | x :: r, k + 1, u, h => by
  rw [List.getElem?_cons_succ] at h
  have := flat3_get h
  have e : flat3 (x :: r) = [x.1, x.2.1, x.2.2] ++ flat3 r := by simp [flat3]
  rw [e, show (k + 1) * 3 = k * 3 + 3 by omega, show k * 3 + 3 + 1 = k * 3 + 1 + 3 by omega, show k * 3 + 3 + 2 = k * 3 + 2 + 3 by omega]
  simpa using this
def PartV (Z : Nat → Prop) (w : World) (u0 u1 : Value) (p : PrtV) : Prop := ∃ q1 n1 c1 q2 n2 c2 B1 B2, u0 = .slice q1 n1 c1 ∧ u1 = .slice q2 n2 c2 ∧ w.ownsRow B1 27 1 (.slice q1 n1 c1) n1 p.1 ∧ (∀ u ∈ p.1, ∃ p k d, u = .slice p k d) ∧
 w.ownsRow B2 122 3 (.slice q2 n2 c2) n2 (flat3 p.2) ∧ p.2.length = n2 ∧ n2 ≤ 1000 ∧ (∀ u ∈ p.2, ∃ a p n c t x, u = (.string a, .slice p n c, .iface t x)) ∧ (∀ b, (Value.slice q1 n1 c1).ownBlock = some b → Z b) ∧ ∀ b, (Value.slice q2 n2 c2).ownBlock = some b → Z b
theorem PartV.lv {Z D : Nat → Prop} {w w' : World} {u0 u1 : Value} {p : PrtV} (h : PartV Z w u0 u1 p) (hv : Lv D w w') (hD : ∀ b, Z b → ¬ D b) : PartV Z w' u0 u1 p := by
 obtain ⟨q1, n1, c1, q2, n2, c2, B1, B2, e0, e1, h1, h2, h3, h4, h5, h6, h7, h8⟩ := h
 exact ⟨q1, n1, c1, q2, n2, c2, B1, B2, e0, e1, row_lv h1 hv (fun b hb => hD b (h7 b hb)), h2, row_lv h3 hv (fun b hb => hD b (h8 b hb)), h4, h5, h6, h7, h8⟩
theorem instances_call (p : Option Addr) (n c : Nat) (w : World) : Calls Tryz.prog 44 #[.slice p n c] w fun e w' =>
  e = .returned (.func (.func 75) #[] #[.pointer (some ⟨w.heap.size, 0, none⟩)]) ∧ w' = w.alloc (.cells #[.slice p n c] 54) := by
 go_enter Tryz.func44, Tryz.ntmps44
 go_wp2
 go_ret
 exact ⟨rfl, rfl⟩
theorem visL_mem {vs : List Value} {nb k : Nat} {v : Value} (h : (v, k) ∈ visL vs nb) : v ∈ vs ∧ k < nb := by
 simp only [visL, List.mem_flatMap, List.mem_map, List.mem_range, Prod.mk.injEq] at h
 obtain ⟨a, ha, b, hb, rfl, rfl⟩ := h
 exact ⟨ha, hb⟩
theorem instances_seqB (base m m' PB B : Nat) (pv : Option Addr) (n c : Nat) (cs : List Value) (prts : List PrtV) (Z : Nat → Prop) (w : World) (ho : w.ownsRow B 166 2 (.slice pv n c) n cs) (hn : prts.length = n)
  (hps : ∀ i p, prts[i]? = some p → ∃ u0 u1, cs[i * 2]? = some u0 ∧ cs[i * 2 + 1]? = some u1 ∧ PartV Z w u0 u1 p)
  (hB : w.heap[PB]? = some (.cells #[.slice pv n c] 54 (0, 0))) (hbw : base ≤ w.heap.size) (hZ : ∀ b, Z b → b < w.heap.size) (hZP : Z PB) (hZR : ∀ b, (Value.slice pv n c).ownBlock = some b → Z b) :
  SeqB base Fence.wide m m' Tryz.prog 75 #[.pointer (some ⟨PB, 0, none⟩)] encI (fun _ _ => True) (fun _ => True) (fun _ => False) Z (insT prts n) w := by
 intro l J Jx own W hvW hJ hJx hown hY h0
 have hBW := hvW.heap hB (fun h => h)
 have hZW : ∀ b, Z b → b < W.heap.size := fun b h => Nat.lt_of_lt_of_le (hZ b h) hvW.size
 have hbW : base ≤ W.heap.size := Nat.le_trans hbw hvW.size
 have HOR := hid (row_lv ho hvW (fun _ _ h => h))
 have HPS : Hid (∀ i p, prts[i]? = some p → ∃ u0 u1, cs[i * 2]? = some u0 ∧ cs[i * 2 + 1]? = some u1 ∧ PartV Z W u0 u1 p) := hid (fun i p h => by obtain ⟨u0, u1, a, b, d⟩ := hps i p h; exact ⟨u0, u1, a, b, d.lv hvW (fun _ _ h => h)⟩)
 have hn63 : n ≤ 9223372036854775807 := by
  rcases ho.2 with ⟨e, h0⟩ | ⟨g, cap, cur, e, _, _, h1, h2, _⟩
  ·omega
  ·unfold maxLen at h2; omega
 obtain ⟨V, hV⟩ : ∃ V, W.alloc (.cells #[.func (.yield l) #[] #[]] 169) = V := ⟨_, rfl⟩
 have hvV : Lv (fun _ => False) W V := by rw [← hV]; exact Lv.alloc _ W _
 have hsV : V.heap.size = W.heap.size + 1 := by rw [← hV]; simp
 have HYB : Hid (V.heap[W.heap.size]? = some (.cells #[.func (.yield l) #[] #[]] 169 (0, 0))) := hid (by rw [← hV]; exact World.alloc_heap_new W _)
 obtain ⟨b0, -⟩ := blk1 (hvV.heap hBW (fun h => h))
 have HB := hid hBW; have HZW := hid hZW; have HOWN := hid hown; have HY := hid hY; have HJ := hid hJ; have HJX := hid hJx; have HZP := hid hZP; have HZR := hid hZR; have HN := hid hn
 have HJV := hid (hJ _ _ _ _ h0 (hvV.mono (fun _ _ h => h.elim))); have HVV := hid hvV; have HSV := hid hsV
 clear hB hBW hZ hZW ho hps hvW hown hY hJ hJx hZP hZR hn h0 hvV hsV hbw
 have hdd : ∀ k : Nat, (Fence.wide.depth.isSome = true → 1 ≤ k) := fun k h => by cases h
 show CallsIn Fence.wide m Tryz.prog 75 #[.func (.yield l) #[] #[], .pointer (some ⟨PB, 0, none⟩)] W _
 refine callsIn_of_wp_marks Tryz.func75 rfl trivial ?_ rfl
 simp only [Tryz.ntmps75, List.size_toArray, List.length_cons, List.length_nil, Nat.reduceAdd, Nat.reduceSub, Array.replicate_succ, Array.replicate_zero, List.push_toArray, List.append_toArray, List.nil_append, List.cons_append]
 gi_wp2_with (fail)
 try rw [hV]
 clear hV
 refine wpIn_loop (fun a' wr => ∃ (u3 u4 u5 u6 u10 u11 u12 u13 u14 u15 u16 u17 u18 u19 u20 u21 u22 u23 u24 u25 u26 u27 u28 u29 u30 : Value) (i : Nat) (own1 Es : List Nat), (i ≤ n ∧ J (insT prts i) own1 wr ∧ (∀ b ∈ own1, (b ∈ own ∨ V.heap.size ≤ b) ∧ b < wr.heap.size) ∧ Lv (fun k => k ∈ own) V wr ∧ (∀ E ∈ Es, wr.heap[E]? = some (.deferred (some [])) ∧ V.heap.size ≤ E ∧ E ∉ own1) ∧ Es.Nodup) ∧
   a' = { tmps := #[.func (.yield l) #[] #[], .pointer (some ⟨PB, 0, none⟩), .pointer (some ⟨W.heap.size, 0, none⟩), u3, u4, u5, u6, .slice pv n c, .int .i64 (n : Int), .int .i64 (i : Int), u10, u11, u12, u13, u14, u15, u16, u17, u18, u19, u20, u21, u22, u23, u24, u25, u26, u27, u28, u29, u30], defers := Es.map fun E => { target := .collected E, args := #[] } }) (fun a' _ => n - (intOf (a'.tmps.getD 9 undef)).toNat) ?_ ?_
 ·exact ⟨undef, undef, undef, undef, undef, undef, undef, undef, undef, undef, undef, undef, undef, undef, undef, undef, undef, undef, undef, undef, undef, undef, undef, undef, undef, 0, own, [], ⟨by omega, by simpa [insT] using HJV.out, fun b hb => ⟨.inl hb, by have := (HOWN.out b hb).1; have := HSV.out; omega⟩, Lv.refl _ _, by simp, by simp⟩, by simp⟩
 ·rintro a' wr ⟨u3, u4, u5, u6, u10, u11, u12, u13, u14, u15, u16, u17, u18, u19, u20, u21, u22, u23, u24, u25, u26, u27, u28, u29, u30, i, own1, Es, ⟨hi, hj, hob, hlv, hes, hnd⟩, rfl⟩
  have hsv := HSV.out
  have hon : ∀ b ∈ own, b ≠ W.heap.size ∧ ¬ Z b := fun b hb => ⟨by have := (HOWN.out b hb).1; omega, (HOWN.out b hb).2⟩
  have HYR := hid (hlv.heap HYB.out (fun h => (hon _ h).1 rfl))
  have HBR := hid (hlv.heap (HVV.out.heap HB.out (fun h => h)) (fun h => (hon _ h).2 HZP.out))
  have hrow := row_lv (row_lv HOR.out HVV.out (fun _ _ h => h)) hlv (fun b hb h => (hon b h).2 (HZR.out b hb))
  obtain ⟨y0, -⟩ := blk1 HYR.out
  obtain ⟨p0, -⟩ := blk1 HBR.out
  have HJ1 := hid hj; have HOB := hid hob; have HLV := hid hlv; have HES := hid hes; have HND := hid hnd; have HON := hid hon; have HROW := hid hrow
  clear hj hob hlv hes hnd hon
  by_cases hlt : i < n
  ·obtain ⟨pr, hpr⟩ := get_some (xs := prts) (k := i) (by rw [HN.out]; exact hlt)
   obtain ⟨v0, v1, e0, e1, hpv⟩ := HPS.out i pr hpr
   have HPV := hid ((hpv.lv HVV.out (fun _ _ h => h)).lv HLV.out (fun b hb h => (HON.out b h).2 hb))
   clear hpv
   obtain ⟨q1, n1, c1, q2, n2, c2, B1, B2, rfl, rfl, h1, h2, h3, h4, h5, h6, h7, h8⟩ := HPV.out
   obtain ⟨g, rfl, d0, d1⟩ : ∃ g, pv = some ⟨g, 0, none⟩ ∧ wr.cell? ⟨g, i * 2, none⟩ = some (.slice q1 n1 c1) ∧ wr.cell? ⟨g, i * 2 + 1, none⟩ = some (.slice q2 n2 c2) := by
    rcases hrow.2 with ⟨e, hz⟩ | ⟨g, cap, cur, e, _⟩
    ·omega
    ·cases e
     have hc := World.ownsRow.cells hrow (g := g) rfl
     have hadd : ∀ j, (⟨g, 0, none⟩ : Addr).add j = ⟨g, j, none⟩ := fun j => by unfold Addr.add; split <;> simp_all
     exact ⟨g, rfl, by rw [← hadd]; exact hc _ _ e0, by rw [← hadd]; exact hc _ _ e1⟩
   have HPR := hid hpr; have H1 := hid h1; have H2 := hid h2; have H3 := hid h3; have H4 := hid h4; have H6 := hid h6; have H7 := hid h7; have H8 := hid h8
   clear hrow hpr e0 e1 h1 h2 h3 h4 h6 h7 h8
   gi_wp2_with (fail)
   refine ⟨trivial, hdd _, ?_⟩
   refine (callsIn_wide.2 (visits_call q1 q2 n1 c1 n2 c2 _)).mono ?_
   rintro e w6 ⟨rfl, rfl⟩
   obtain ⟨W6, hW6⟩ : ∃ W6, (((wr.alloc (.cells #[.int .i64 (i : Int)] 3)).alloc (.cells #[.slice q1 n1 c1, .slice q2 n2 c2] 166)).alloc (.cells #[.slice q1 n1 c1, .slice q2 n2 c2] 166)) = W6 := ⟨_, rfl⟩
   have hs6 : W6.heap.size = wr.heap.size + 3 := by rw [← hW6]; simp
   have X0 := hid (show W6.heap[wr.heap.size]? = some (.cells #[.int .i64 (i : Int)] 3 (0, 0)) by rw [← hW6]; exact blk_old (blk_old (blk_at rfl)))
   have X1 := hid (show W6.heap[wr.heap.size + 1]? = some (.cells #[.slice q1 n1 c1, .slice q2 n2 c2] 166 (0, 0)) by rw [← hW6]; exact blk_old (blk_at (by simp)))
   have X2 := hid (show W6.heap[wr.heap.size + 1 + 1]? = some (.cells #[.slice q1 n1 c1, .slice q2 n2 c2] 166 (0, 0)) by rw [← hW6]; exact blk_at (by simp))
   have hv6 : Lv (fun _ => False) wr W6 := by rw [← hW6]; exact ((Lv.alloc (fun _ => False) wr _).trans (Lv.alloc (fun _ => False) _ _) (fun _ _ h => h) (fun _ _ h => h)).trans (Lv.alloc (fun _ => False) _ _) (fun _ _ h => h) (fun _ _ h => h)
   have HV6 := hid hv6; have HS6 := hid hs6
   have X3 := hid (hv6.heap HYR.out (fun h => h))
   have HJ6 := hid (HJ.out _ _ _ _ HJ1.out (hv6.mono (fun _ _ h => h.elim)))
   have R1 := hid (row_lv H1.out hv6 (fun _ _ h => h)); have R3 := hid (row_lv H3.out hv6 (fun _ _ h => h))
   have hwr : W.heap.size + 1 ≤ wr.heap.size := by have := HLV.out.size; omega
   have HZ6 : Hid (∀ b, (Z b ∨ b = wr.heap.size + 1 + 1) → b < W6.heap.size) := hid (fun b h => by
    rcases h with h | h
    ·have := HZW.out b h; omega
    ·omega)
   have HO6 : Hid (∀ b ∈ own1, b < W6.heap.size ∧ ¬ (Z b ∨ b = wr.heap.size + 1 + 1)) := hid (fun b hb => by
    obtain ⟨h1, h2⟩ := HOB.out b hb
    refine ⟨by omega, fun h => ?_⟩
    rcases h with h | h
    ·rcases h1 with h1 | h1
     ·exact (HON.out b h1).2 h
     ·have := HZW.out b h; omega
    ·omega)
   have hb6 : base ≤ W6.heap.size := by omega
   simp only [World.size_alloc]
   rw [hW6]
   clear hW6 hv6 y0 p0 d0 d1
   gi_wp2_with (fail)
   refine wpIn_rangeFunc_base (w := W6) rfl (hdd _) (gf := 108) (lb := #[.pointer (some ⟨wr.heap.size + 1 + 1, 0, none⟩)]) rfl trivial (enters_of Tryz.func108 (by kernel_rfl) rfl)
    W6.heap.size (Nat.le_refl _) (visits_seqB W6.heap.size _ _ (wr.heap.size + 1 + 1) B1 q1 q2 n1 c1 n2 c2 pr.1 (fun b => Z b ∨ b = wr.heap.size + 1 + 1) W6 R1.out H2.out h5 X2.out HZ6.out (.inr rfl) (fun b hb => .inl (H7.out b hb)))
    HZ6.out (fun b h => h.elim) (fun x W1 W2 _ _ => trivial) (fun W1 W2 _ _ => trivial) (fun _ => rfl)
    (fun s own2 X => J (insT prts i ++ s.map (insF i pr.2)) own2 X ∧ Lv (fun k => k ∈ own1) W6 X ∧ ∀ b ∈ own2, b ∈ own1 ∨ W6.heap.size ≤ b)
    (fun cd s own2 X => cd = .ret ∧ (∃ q, q <+: insT prts n ∧ Jx q own2 X) ∧ Lv (fun k => k ∈ own1) W6 X)
    (by
     rintro s o X X' ⟨a1, a2, a3⟩ hv
     exact ⟨HJ.out _ _ _ _ a1 (hv.mono (fun b _ h => ⟨h.1, by omega⟩)), a2.trans hv (fun _ _ h => h) (fun b hb h => by omega), a3⟩)
    (by
     rintro cd s o X X' ⟨a1, ⟨q, a2, a3⟩, a4⟩ hv
     exact ⟨a1, ⟨q, a2, HJX.out _ _ _ _ a3 (hv.mono (fun b _ h => ⟨h.1, by omega⟩))⟩, a4.trans hv (fun _ _ h => h) (fun b hb h => by omega)⟩)
    own1 HO6.out ⟨by simpa using HJ6.out, Lv.refl _ _, fun b hb => .inl hb⟩ ?a1 ?assign ?body ?done ?stop
   case assign =>
    intro l2 y X K hK
    gi_wp2
    exact hK
   case body =>
    rintro l2 pre0 ⟨v, k⟩ own2 X ⟨hj, hv, hoo⟩ hpx - hob
    have hmem : (v, k) ∈ visL pr.1 n2 := by obtain ⟨t, ht⟩ := hpx; rw [← ht]; simp
    obtain ⟨hmv, hk⟩ := visL_mem hmem
    obtain ⟨pk, nk, dk, rfl⟩ := H2.out v hmv
    obtain ⟨u, hu⟩ := get_some (xs := pr.2) (k := k) (by rw [H4.out]; exact hk)
    obtain ⟨ua, up, un, uc, ut, ux, rfl⟩ := H6.out u (List.mem_of_getElem? hu)
    obtain ⟨f0, f1, f2⟩ := flat3_get hu
    have hins : insF i pr.2 (.slice pk nk dk, k) = ((i, k, .slice pk nk dk), (.string ua, .slice up un uc, .iface ut ux)) := by simp [insF, List.getD_eq_getElem?_getD, hu]
    have hpre : (insT prts i ++ pre0.map (insF i pr.2) ++ [((i, k, .slice pk nk dk), (.string ua, .slice up un uc, .iface ut ux))]) <+: insT prts n := by
     have h1 := insT_pre HPR.out
     rw [HN.out] at h1
     refine List.IsPrefix.trans ?_ h1
     rw [List.append_assoc]
     refine (List.prefix_append_right_inj _).2 ?_
     obtain ⟨t, ht⟩ := hpx
     refine ⟨t.map (insF i pr.2), ?_⟩
     unfold insP
     rw [H4.out, ← ht, List.map_append, List.map_append, List.map_cons, List.map_nil, hins]
    have ED : Lv (fun _ => False) X X.drew := Lv.drew0 _ X
    have hX6 : Lv (fun k => k ∈ own1) W6 X.drew := hv.trans ED (fun _ _ h => h) (fun _ _ h => h.elim)
    have hno : ∀ b, W.heap.size ≤ b → b < W6.heap.size → (b = W.heap.size ∨ wr.heap.size ≤ b) → b ∉ own1 := fun b h1 h2 h3 h4 => by
     obtain ⟨o1, o2⟩ := HOB.out b h4
     rcases h3 with h3 | h3
     ·rcases o1 with o1 | o1
      ·exact (HON.out b o1).1 h3
      ·omega
     ·omega
    have hyo : W.heap.size ∉ own1 := hno _ (Nat.le_refl _) (by omega) (.inl rfl)
    have c3 := (blk1 (hX6.heap X3.out hyo)).1
    have c0 := (blk1 (hX6.heap X0.out (hno _ (by omega) (by omega) (.inr (Nat.le_refl _))))).1
    have c1' := (blk2 (hX6.heap X1.out (hno _ (by omega) (by omega) (.inr (by omega))))).2.1
    have hr3 := row_lv R3.out hX6 (fun b hb h => by
     have := (HO6.out b h).2
     exact this (.inl (H8.out b hb)))
    obtain ⟨g2, rfl, s0, s1, s2⟩ : ∃ g2, q2 = some ⟨g2, 0, none⟩ ∧ X.drew.cell? ⟨g2, k * 3, none⟩ = some (.string ua) ∧ X.drew.cell? ⟨g2, k * 3 + 1, none⟩ = some (.slice up un uc) ∧ X.drew.cell? ⟨g2, k * 3 + 2, none⟩ = some (.iface ut ux) := by
     rcases hr3.2 with ⟨e, hz⟩ | ⟨g2, cap, cur, e, _⟩
     ·omega
     ·cases e
      have hc := World.ownsRow.cells hr3 (g := g2) rfl
      have hadd : ∀ j, (⟨g2, 0, none⟩ : Addr).add j = ⟨g2, j, none⟩ := fun j => by unfold Addr.add; split <;> simp_all
      exact ⟨g2, rfl, by rw [← hadd]; exact hc _ _ f0, by rw [← hadd]; exact hc _ _ f1, by rw [← hadd]; exact hc _ _ f2⟩
    obtain ⟨fn, tmps, assign, body, hy, hR⟩ := HY.out (insT prts i ++ pre0.map (insF i pr.2)) ((i, k, .slice pk nk dk), (.string ua, .slice up un uc, .iface ut ux)) own2 X.drew (HJ.out _ _ _ _ hj (ED.mono (fun _ _ h => h.elim))) hpre trivial (fun b hb => ⟨(hob b hb).1, fun h => (hob b hb).2 (.inl h)⟩)
    dsimp only [encI] at hy
    have HOO := hid hoo; have HX6 := hid hX6; have HR9 := hid hR; have HINS := hid hins; have HED := hid ED
    have hkn : (k : Int) < (n2 : Int) := by omega
    have hLv : ∀ own3 V2, Grew own2 own3 X.drew V2 → Lv (fun k => k ∈ own1) W6 V2 := fun own3 V2 hg3 => hX6.trans hg3.1 (fun _ _ h => h) (fun b hb h => (hoo b h).resolve_right (by omega))
    have HKY : Hid (∀ own3 V2, Grew own2 own3 X.drew V2 → J ((insT prts i ++ pre0.map (insF i pr.2)) ++ [((i, k, Value.slice pk nk dk), (Value.string ua, Value.slice up un uc, Value.iface ut ux))]) own3 V2 → Grew own2 own3 X V2 ∧ (J (insT prts i ++ (pre0 ++ [(Value.slice pk nk dk, k)]).map (insF i pr.2)) own3 V2 ∧ Lv (fun k => k ∈ own1) W6 V2 ∧ ∀ b ∈ own3, b ∈ own1 ∨ W6.heap.size ≤ b)) := hid (fun own3 V2 hg3 hj3 =>
     ⟨Grew.pre ED hg3, by rw [List.map_append, ← List.append_assoc, List.map_cons, List.map_nil, hins]; exact hj3, hLv own3 V2 hg3, fun b hb => by
      rcases (hg3.2 b hb).1 with h | h
      ·exact hoo b h
      ·have := hX6.size; exact .inr (by omega)⟩)
    have HKN : Hid (∀ own3 V2, Grew own2 own3 X.drew V2 → Jx ((insT prts i ++ pre0.map (insF i pr.2)) ++ [((i, k, Value.slice pk nk dk), (Value.string ua, Value.slice up un uc, Value.iface ut ux))]) own3 V2 → Grew own2 own3 X V2 ∧ (Code.ret = Code.ret ∧ (∃ q, q <+: insT prts n ∧ Jx q own3 V2) ∧ Lv (fun k => k ∈ own1) W6 V2)) := hid (fun own3 V2 hg3 hj3 => ⟨Grew.pre ED hg3, rfl, ⟨_, hpre, hj3⟩, hLv own3 V2 hg3⟩)
    clear hj hv hoo hpx hob hmem hmv hu f0 f1 f2 hins hpre ED hX6 hno hyo hr3 hR hLv
    gi_wp2_with (fail)
    -- REG
    refine wpIn_round_any (n := m) (by kernel_rfl) (by kernel_rfl) ?_
    refine wpAnyIn_take (i := 2) (v := ?vrg1) rfl rfl (by kernel_rfl) (by kernel_rfl) (by kernel_rfl) (fun _ _ _ h => h) ⟨Or.inl ⟨by rfl, ?yrg1⟩, fun _ => rfl⟩ ?rrg1
    case yrg1 => intro w; go_simp; first | done | with_reducible rfl
    case' rrg1 => try simp only [Act.put, sA9, sZ9, sS9]
    refine wpAnyIn_take (i := 3) (v := ?vrg2) rfl rfl (by kernel_rfl) (by kernel_rfl) (by kernel_rfl) (fun _ _ _ h => h) ⟨Or.inl ⟨by rfl, ?yrg2⟩, fun _ => rfl⟩ ?rrg2
    case yrg2 => intro w; go_simp; first | done | with_reducible rfl
    case' rrg2 => try simp only [Act.put, sA9, sZ9, sS9]
    refine wpAnyIn_take (i := 5) (v := ?vrg3) rfl rfl (by kernel_rfl) (by kernel_rfl) (by kernel_rfl) (fun _ _ _ h => h) ⟨Or.inl ⟨by rfl, ?yrg3⟩, fun _ => rfl⟩ ?rrg3
    case yrg3 => intro w; go_simp; first | done | with_reducible rfl
    case' rrg3 => try simp only [Act.put, sA9, sZ9, sS9]
    refine wpAnyIn_take (i := 7) (v := ?vrg4) rfl rfl (by kernel_rfl) (by kernel_rfl) (by kernel_rfl) (fun _ _ _ h => h) ⟨Or.inl ⟨by rfl, ?yrg4⟩, fun _ => rfl⟩ ?rrg4
    case yrg4 => intro w; go_simp; first | done | with_reducible rfl
    case' rrg4 => try simp only [Act.put, sA9, sZ9, sS9]
    refine wpAnyIn_ready (rs := [0, 1, 6]) (by kernel_rfl) (by simp) ?_
    refine AllReadyIn.cons rfl (fun K9 hK => ?_) (AllReadyIn.cons rfl (fun K9 hK => ?_) (AllReadyIn.cons rfl (fun K9 hK => ?_) AllReadyIn.nil))
    ·skip
     go_simp
     refine hK _ _ ?_
     clear hK K9
     try simp only [Act.put, sA9, sZ9, sS9]
     refine wpAnyIn_ready (rs := [1, 6]) (by kernel_rfl) (by simp) ?_
     refine AllReadyIn.cons rfl (fun K9 hK => ?_) (AllReadyIn.cons rfl (fun K9 hK => ?_) AllReadyIn.nil)
     ·skip
      go_simp
      refine hK _ _ ?_
      clear hK K9
      try simp only [Act.put, sA9, sZ9, sS9]
      refine wpAnyIn_take (i := 4) (v := ?vrg5) rfl rfl (by kernel_rfl) (by kernel_rfl) (by kernel_rfl) (fun _ _ _ h => h) ⟨Or.inl ⟨by rfl, ?yrg5⟩, fun _ => rfl⟩ ?rrg5
      case yrg5 => intro w; go_simp; first | done | with_reducible rfl
      case' rrg5 => try simp only [Act.put, sA9, sZ9, sS9]
      refine wpAnyIn_ready (rs := [6]) (by kernel_rfl) (by simp) ?_
      refine AllReadyIn.cons rfl (fun K9 hK => ?_) AllReadyIn.nil
      go_simp
      refine hK _ _ ?_
      clear hK K9
      try simp only [Act.put, sA9, sZ9, sS9]
      refine wpAnyIn_take (i := 8) (v := ?vrg6) rfl rfl (by kernel_rfl) (by kernel_rfl) (by kernel_rfl) (fun _ _ _ h => h) ⟨Or.inl ⟨by rfl, ?yrg6⟩, fun _ => rfl⟩ ?rrg6
      case yrg6 => intro w; go_simp; first | done | with_reducible rfl
      case' rrg6 => try simp only [Act.put, sA9, sZ9, sS9]
      refine wpAnyIn_ready (rs := [9]) (by kernel_rfl) (by simp) ?_
      refine AllReadyIn.cons rfl (fun K9 hK => ?_) AllReadyIn.nil
      go_simp
      refine hK _ _ ?_
      clear hK K9
      try simp only [Act.put, sA9, sZ9, sS9]
      refine wpAnyIn_ready (rs := [10]) (by kernel_rfl) (by simp) ?_
      refine AllReadyIn.cons rfl (fun K9 hK => ?_) AllReadyIn.nil
      go_simp
      refine ⟨hdd _, ?_⟩
      refine (round_wide HR9.out).mono ?_
      rintro e V2 ⟨own3, hg3, (⟨rfl, hj3⟩ | ⟨rfl, hj3⟩)⟩
      ·refine hK _ _ ?_
       clear hK K9
       try simp only [Act.put, sA9, sZ9, sS9]
       refine wpAnyIn_ready (rs := [11]) (by kernel_rfl) (by simp) ?_
       refine AllReadyIn.cons rfl (fun K9 hK => ?_) AllReadyIn.nil
       go_simp
       refine hK _ _ ?_
       clear hK K9
       try simp only [Act.put, sA9, sZ9, sS9]
       refine wpAnyIn_done (by kernel_rfl) ?_ _
       have HYES := hid (HKY.out own3 V2 hg3 hj3)
       clear hg3 hj3
       gi_wp2
       exact ⟨own3, HYES.out⟩
      ·refine hK _ _ ?_
       clear hK K9
       try simp only [Act.put, sA9, sZ9, sS9]
       refine wpAnyIn_ready (rs := [11]) (by kernel_rfl) (by simp) ?_
       refine AllReadyIn.cons rfl (fun K9 hK => ?_) AllReadyIn.nil
       go_simp
       refine hK _ _ ?_
       clear hK K9
       try simp only [Act.put, sA9, sZ9, sS9]
       refine wpAnyIn_done (by kernel_rfl) ?_ _
       have HNOO := hid (HKN.out own3 V2 hg3 hj3)
       clear hg3 hj3
       gi_wp2
       exact ⟨own3, HNOO.out.1, rfl, HNOO.out.2.2⟩
     ·skip
      go_simp
      refine hK _ _ ?_
      clear hK K9
      try simp only [Act.put, sA9, sZ9, sS9]
      refine wpAnyIn_take (i := 8) (v := ?vrg7) rfl rfl (by kernel_rfl) (by kernel_rfl) (by kernel_rfl) (fun _ _ _ h => h) ⟨Or.inl ⟨by rfl, ?yrg7⟩, fun _ => rfl⟩ ?rrg7
      case yrg7 => intro w; go_simp; first | done | with_reducible rfl
      case' rrg7 => try simp only [Act.put, sA9, sZ9, sS9]
      refine wpAnyIn_ready (rs := [1, 9]) (by kernel_rfl) (by simp) ?_
      refine AllReadyIn.cons rfl (fun K9 hK => ?_) (AllReadyIn.cons rfl (fun K9 hK => ?_) AllReadyIn.nil)
      ·skip
       go_simp
       refine hK _ _ ?_
       clear hK K9
       try simp only [Act.put, sA9, sZ9, sS9]
       refine wpAnyIn_take (i := 4) (v := ?vrg8) rfl rfl (by kernel_rfl) (by kernel_rfl) (by kernel_rfl) (fun _ _ _ h => h) ⟨Or.inl ⟨by rfl, ?yrg8⟩, fun _ => rfl⟩ ?rrg8
       case yrg8 => intro w; go_simp; first | done | with_reducible rfl
       case' rrg8 => try simp only [Act.put, sA9, sZ9, sS9]
       refine wpAnyIn_ready (rs := [9]) (by kernel_rfl) (by simp) ?_
       refine AllReadyIn.cons rfl (fun K9 hK => ?_) AllReadyIn.nil
       go_simp
       refine hK _ _ ?_
       clear hK K9
       try simp only [Act.put, sA9, sZ9, sS9]
       refine wpAnyIn_ready (rs := [10]) (by kernel_rfl) (by simp) ?_
       refine AllReadyIn.cons rfl (fun K9 hK => ?_) AllReadyIn.nil
       go_simp
       refine ⟨hdd _, ?_⟩
       refine (round_wide HR9.out).mono ?_
       rintro e V2 ⟨own3, hg3, (⟨rfl, hj3⟩ | ⟨rfl, hj3⟩)⟩
       ·refine hK _ _ ?_
        clear hK K9
        try simp only [Act.put, sA9, sZ9, sS9]
        refine wpAnyIn_ready (rs := [11]) (by kernel_rfl) (by simp) ?_
        refine AllReadyIn.cons rfl (fun K9 hK => ?_) AllReadyIn.nil
        go_simp
        refine hK _ _ ?_
        clear hK K9
        try simp only [Act.put, sA9, sZ9, sS9]
        refine wpAnyIn_done (by kernel_rfl) ?_ _
        have HYES := hid (HKY.out own3 V2 hg3 hj3)
        clear hg3 hj3
        gi_wp2
        exact ⟨own3, HYES.out⟩
       ·refine hK _ _ ?_
        clear hK K9
        try simp only [Act.put, sA9, sZ9, sS9]
        refine wpAnyIn_ready (rs := [11]) (by kernel_rfl) (by simp) ?_
        refine AllReadyIn.cons rfl (fun K9 hK => ?_) AllReadyIn.nil
        go_simp
        refine hK _ _ ?_
        clear hK K9
        try simp only [Act.put, sA9, sZ9, sS9]
        refine wpAnyIn_done (by kernel_rfl) ?_ _
        have HNOO := hid (HKN.out own3 V2 hg3 hj3)
        clear hg3 hj3
        gi_wp2
        exact ⟨own3, HNOO.out.1, rfl, HNOO.out.2.2⟩
      ·skip
       go_simp
       refine hK _ _ ?_
       clear hK K9
       try simp only [Act.put, sA9, sZ9, sS9]
       refine wpAnyIn_ready (rs := [1]) (by kernel_rfl) (by simp) ?_
       refine AllReadyIn.cons rfl (fun K9 hK => ?_) AllReadyIn.nil
       go_simp
       refine hK _ _ ?_
       clear hK K9
       try simp only [Act.put, sA9, sZ9, sS9]
       refine wpAnyIn_take (i := 4) (v := ?vrg9) rfl rfl (by kernel_rfl) (by kernel_rfl) (by kernel_rfl) (fun _ _ _ h => h) ⟨Or.inl ⟨by rfl, ?yrg9⟩, fun _ => rfl⟩ ?rrg9
       case yrg9 => intro w; go_simp; first | done | with_reducible rfl
       case' rrg9 => try simp only [Act.put, sA9, sZ9, sS9]
       refine wpAnyIn_ready (rs := [10]) (by kernel_rfl) (by simp) ?_
       refine AllReadyIn.cons rfl (fun K9 hK => ?_) AllReadyIn.nil
       go_simp
       refine ⟨hdd _, ?_⟩
       refine (round_wide HR9.out).mono ?_
       rintro e V2 ⟨own3, hg3, (⟨rfl, hj3⟩ | ⟨rfl, hj3⟩)⟩
       ·refine hK _ _ ?_
        clear hK K9
        try simp only [Act.put, sA9, sZ9, sS9]
        refine wpAnyIn_ready (rs := [11]) (by kernel_rfl) (by simp) ?_
        refine AllReadyIn.cons rfl (fun K9 hK => ?_) AllReadyIn.nil
        go_simp
        refine hK _ _ ?_
        clear hK K9
        try simp only [Act.put, sA9, sZ9, sS9]
        refine wpAnyIn_done (by kernel_rfl) ?_ _
        have HYES := hid (HKY.out own3 V2 hg3 hj3)
        clear hg3 hj3
        gi_wp2
        exact ⟨own3, HYES.out⟩
       ·refine hK _ _ ?_
        clear hK K9
        try simp only [Act.put, sA9, sZ9, sS9]
        refine wpAnyIn_ready (rs := [11]) (by kernel_rfl) (by simp) ?_
        refine AllReadyIn.cons rfl (fun K9 hK => ?_) AllReadyIn.nil
        go_simp
        refine hK _ _ ?_
        clear hK K9
        try simp only [Act.put, sA9, sZ9, sS9]
        refine wpAnyIn_done (by kernel_rfl) ?_ _
        have HNOO := hid (HKN.out own3 V2 hg3 hj3)
        clear hg3 hj3
        gi_wp2
        exact ⟨own3, HNOO.out.1, rfl, HNOO.out.2.2⟩
    ·skip
     go_simp
     refine hK _ _ ?_
     clear hK K9
     try simp only [Act.put, sA9, sZ9, sS9]
     refine wpAnyIn_take (i := 4) (v := ?vrg10) rfl rfl (by kernel_rfl) (by kernel_rfl) (by kernel_rfl) (fun _ _ _ h => h) ⟨Or.inl ⟨by rfl, ?yrg10⟩, fun _ => rfl⟩ ?rrg10
     case yrg10 => intro w; go_simp; first | done | with_reducible rfl
     case' rrg10 => try simp only [Act.put, sA9, sZ9, sS9]
     refine wpAnyIn_ready (rs := [0, 6]) (by kernel_rfl) (by simp) ?_
     refine AllReadyIn.cons rfl (fun K9 hK => ?_) (AllReadyIn.cons rfl (fun K9 hK => ?_) AllReadyIn.nil)
     ·skip
      go_simp
      refine hK _ _ ?_
      clear hK K9
      try simp only [Act.put, sA9, sZ9, sS9]
      refine wpAnyIn_ready (rs := [6]) (by kernel_rfl) (by simp) ?_
      refine AllReadyIn.cons rfl (fun K9 hK => ?_) AllReadyIn.nil
      go_simp
      refine hK _ _ ?_
      clear hK K9
      try simp only [Act.put, sA9, sZ9, sS9]
      refine wpAnyIn_take (i := 8) (v := ?vrg11) rfl rfl (by kernel_rfl) (by kernel_rfl) (by kernel_rfl) (fun _ _ _ h => h) ⟨Or.inl ⟨by rfl, ?yrg11⟩, fun _ => rfl⟩ ?rrg11
      case yrg11 => intro w; go_simp; first | done | with_reducible rfl
      case' rrg11 => try simp only [Act.put, sA9, sZ9, sS9]
      refine wpAnyIn_ready (rs := [9]) (by kernel_rfl) (by simp) ?_
      refine AllReadyIn.cons rfl (fun K9 hK => ?_) AllReadyIn.nil
      go_simp
      refine hK _ _ ?_
      clear hK K9
      try simp only [Act.put, sA9, sZ9, sS9]
      refine wpAnyIn_ready (rs := [10]) (by kernel_rfl) (by simp) ?_
      refine AllReadyIn.cons rfl (fun K9 hK => ?_) AllReadyIn.nil
      go_simp
      refine ⟨hdd _, ?_⟩
      refine (round_wide HR9.out).mono ?_
      rintro e V2 ⟨own3, hg3, (⟨rfl, hj3⟩ | ⟨rfl, hj3⟩)⟩
      ·refine hK _ _ ?_
       clear hK K9
       try simp only [Act.put, sA9, sZ9, sS9]
       refine wpAnyIn_ready (rs := [11]) (by kernel_rfl) (by simp) ?_
       refine AllReadyIn.cons rfl (fun K9 hK => ?_) AllReadyIn.nil
       go_simp
       refine hK _ _ ?_
       clear hK K9
       try simp only [Act.put, sA9, sZ9, sS9]
       refine wpAnyIn_done (by kernel_rfl) ?_ _
       have HYES := hid (HKY.out own3 V2 hg3 hj3)
       clear hg3 hj3
       gi_wp2
       exact ⟨own3, HYES.out⟩
      ·refine hK _ _ ?_
       clear hK K9
       try simp only [Act.put, sA9, sZ9, sS9]
       refine wpAnyIn_ready (rs := [11]) (by kernel_rfl) (by simp) ?_
       refine AllReadyIn.cons rfl (fun K9 hK => ?_) AllReadyIn.nil
       go_simp
       refine hK _ _ ?_
       clear hK K9
       try simp only [Act.put, sA9, sZ9, sS9]
       refine wpAnyIn_done (by kernel_rfl) ?_ _
       have HNOO := hid (HKN.out own3 V2 hg3 hj3)
       clear hg3 hj3
       gi_wp2
       exact ⟨own3, HNOO.out.1, rfl, HNOO.out.2.2⟩
     ·skip
      go_simp
      refine hK _ _ ?_
      clear hK K9
      try simp only [Act.put, sA9, sZ9, sS9]
      refine wpAnyIn_take (i := 8) (v := ?vrg12) rfl rfl (by kernel_rfl) (by kernel_rfl) (by kernel_rfl) (fun _ _ _ h => h) ⟨Or.inl ⟨by rfl, ?yrg12⟩, fun _ => rfl⟩ ?rrg12
      case yrg12 => intro w; go_simp; first | done | with_reducible rfl
      case' rrg12 => try simp only [Act.put, sA9, sZ9, sS9]
      refine wpAnyIn_ready (rs := [0, 9]) (by kernel_rfl) (by simp) ?_
      refine AllReadyIn.cons rfl (fun K9 hK => ?_) (AllReadyIn.cons rfl (fun K9 hK => ?_) AllReadyIn.nil)
      ·skip
       go_simp
       refine hK _ _ ?_
       clear hK K9
       try simp only [Act.put, sA9, sZ9, sS9]
       refine wpAnyIn_ready (rs := [9]) (by kernel_rfl) (by simp) ?_
       refine AllReadyIn.cons rfl (fun K9 hK => ?_) AllReadyIn.nil
       go_simp
       refine hK _ _ ?_
       clear hK K9
       try simp only [Act.put, sA9, sZ9, sS9]
       refine wpAnyIn_ready (rs := [10]) (by kernel_rfl) (by simp) ?_
       refine AllReadyIn.cons rfl (fun K9 hK => ?_) AllReadyIn.nil
       go_simp
       refine ⟨hdd _, ?_⟩
       refine (round_wide HR9.out).mono ?_
       rintro e V2 ⟨own3, hg3, (⟨rfl, hj3⟩ | ⟨rfl, hj3⟩)⟩
       ·refine hK _ _ ?_
        clear hK K9
        try simp only [Act.put, sA9, sZ9, sS9]
        refine wpAnyIn_ready (rs := [11]) (by kernel_rfl) (by simp) ?_
        refine AllReadyIn.cons rfl (fun K9 hK => ?_) AllReadyIn.nil
        go_simp
        refine hK _ _ ?_
        clear hK K9
        try simp only [Act.put, sA9, sZ9, sS9]
        refine wpAnyIn_done (by kernel_rfl) ?_ _
        have HYES := hid (HKY.out own3 V2 hg3 hj3)
        clear hg3 hj3
        gi_wp2
        exact ⟨own3, HYES.out⟩
       ·refine hK _ _ ?_
        clear hK K9
        try simp only [Act.put, sA9, sZ9, sS9]
        refine wpAnyIn_ready (rs := [11]) (by kernel_rfl) (by simp) ?_
        refine AllReadyIn.cons rfl (fun K9 hK => ?_) AllReadyIn.nil
        go_simp
        refine hK _ _ ?_
        clear hK K9
        try simp only [Act.put, sA9, sZ9, sS9]
        refine wpAnyIn_done (by kernel_rfl) ?_ _
        have HNOO := hid (HKN.out own3 V2 hg3 hj3)
        clear hg3 hj3
        gi_wp2
        exact ⟨own3, HNOO.out.1, rfl, HNOO.out.2.2⟩
      ·skip
       go_simp
       refine hK _ _ ?_
       clear hK K9
       try simp only [Act.put, sA9, sZ9, sS9]
       refine wpAnyIn_ready (rs := [0]) (by kernel_rfl) (by simp) ?_
       refine AllReadyIn.cons rfl (fun K9 hK => ?_) AllReadyIn.nil
       go_simp
       refine hK _ _ ?_
       clear hK K9
       try simp only [Act.put, sA9, sZ9, sS9]
       refine wpAnyIn_ready (rs := [10]) (by kernel_rfl) (by simp) ?_
       refine AllReadyIn.cons rfl (fun K9 hK => ?_) AllReadyIn.nil
       go_simp
       refine ⟨hdd _, ?_⟩
       refine (round_wide HR9.out).mono ?_
       rintro e V2 ⟨own3, hg3, (⟨rfl, hj3⟩ | ⟨rfl, hj3⟩)⟩
       ·refine hK _ _ ?_
        clear hK K9
        try simp only [Act.put, sA9, sZ9, sS9]
        refine wpAnyIn_ready (rs := [11]) (by kernel_rfl) (by simp) ?_
        refine AllReadyIn.cons rfl (fun K9 hK => ?_) AllReadyIn.nil
        go_simp
        refine hK _ _ ?_
        clear hK K9
        try simp only [Act.put, sA9, sZ9, sS9]
        refine wpAnyIn_done (by kernel_rfl) ?_ _
        have HYES := hid (HKY.out own3 V2 hg3 hj3)
        clear hg3 hj3
        gi_wp2
        exact ⟨own3, HYES.out⟩
       ·refine hK _ _ ?_
        clear hK K9
        try simp only [Act.put, sA9, sZ9, sS9]
        refine wpAnyIn_ready (rs := [11]) (by kernel_rfl) (by simp) ?_
        refine AllReadyIn.cons rfl (fun K9 hK => ?_) AllReadyIn.nil
        go_simp
        refine hK _ _ ?_
        clear hK K9
        try simp only [Act.put, sA9, sZ9, sS9]
        refine wpAnyIn_done (by kernel_rfl) ?_ _
        have HNOO := hid (HKN.out own3 V2 hg3 hj3)
        clear hg3 hj3
        gi_wp2
        exact ⟨own3, HNOO.out.1, rfl, HNOO.out.2.2⟩
    ·skip
     go_simp
     refine hK _ _ ?_
     clear hK K9
     try simp only [Act.put, sA9, sZ9, sS9]
     refine wpAnyIn_take (i := 8) (v := ?vrg13) rfl rfl (by kernel_rfl) (by kernel_rfl) (by kernel_rfl) (fun _ _ _ h => h) ⟨Or.inl ⟨by rfl, ?yrg13⟩, fun _ => rfl⟩ ?rrg13
     case yrg13 => intro w; go_simp; first | done | with_reducible rfl
     case' rrg13 => try simp only [Act.put, sA9, sZ9, sS9]
     refine wpAnyIn_ready (rs := [0, 1, 9]) (by kernel_rfl) (by simp) ?_
     refine AllReadyIn.cons rfl (fun K9 hK => ?_) (AllReadyIn.cons rfl (fun K9 hK => ?_) (AllReadyIn.cons rfl (fun K9 hK => ?_) AllReadyIn.nil))
     ·skip
      go_simp
      refine hK _ _ ?_
      clear hK K9
      try simp only [Act.put, sA9, sZ9, sS9]
      refine wpAnyIn_ready (rs := [1, 9]) (by kernel_rfl) (by simp) ?_
      refine AllReadyIn.cons rfl (fun K9 hK => ?_) (AllReadyIn.cons rfl (fun K9 hK => ?_) AllReadyIn.nil)
      ·skip
       go_simp
       refine hK _ _ ?_
       clear hK K9
       try simp only [Act.put, sA9, sZ9, sS9]
       refine wpAnyIn_take (i := 4) (v := ?vrg14) rfl rfl (by kernel_rfl) (by kernel_rfl) (by kernel_rfl) (fun _ _ _ h => h) ⟨Or.inl ⟨by rfl, ?yrg14⟩, fun _ => rfl⟩ ?rrg14
       case yrg14 => intro w; go_simp; first | done | with_reducible rfl
       case' rrg14 => try simp only [Act.put, sA9, sZ9, sS9]
       refine wpAnyIn_ready (rs := [9]) (by kernel_rfl) (by simp) ?_
       refine AllReadyIn.cons rfl (fun K9 hK => ?_) AllReadyIn.nil
       go_simp
       refine hK _ _ ?_
       clear hK K9
       try simp only [Act.put, sA9, sZ9, sS9]
       refine wpAnyIn_ready (rs := [10]) (by kernel_rfl) (by simp) ?_
       refine AllReadyIn.cons rfl (fun K9 hK => ?_) AllReadyIn.nil
       go_simp
       refine ⟨hdd _, ?_⟩
       refine (round_wide HR9.out).mono ?_
       rintro e V2 ⟨own3, hg3, (⟨rfl, hj3⟩ | ⟨rfl, hj3⟩)⟩
       ·refine hK _ _ ?_
        clear hK K9
        try simp only [Act.put, sA9, sZ9, sS9]
        refine wpAnyIn_ready (rs := [11]) (by kernel_rfl) (by simp) ?_
        refine AllReadyIn.cons rfl (fun K9 hK => ?_) AllReadyIn.nil
        go_simp
        refine hK _ _ ?_
        clear hK K9
        try simp only [Act.put, sA9, sZ9, sS9]
        refine wpAnyIn_done (by kernel_rfl) ?_ _
        have HYES := hid (HKY.out own3 V2 hg3 hj3)
        clear hg3 hj3
        gi_wp2
        exact ⟨own3, HYES.out⟩
       ·refine hK _ _ ?_
        clear hK K9
        try simp only [Act.put, sA9, sZ9, sS9]
        refine wpAnyIn_ready (rs := [11]) (by kernel_rfl) (by simp) ?_
        refine AllReadyIn.cons rfl (fun K9 hK => ?_) AllReadyIn.nil
        go_simp
        refine hK _ _ ?_
        clear hK K9
        try simp only [Act.put, sA9, sZ9, sS9]
        refine wpAnyIn_done (by kernel_rfl) ?_ _
        have HNOO := hid (HKN.out own3 V2 hg3 hj3)
        clear hg3 hj3
        gi_wp2
        exact ⟨own3, HNOO.out.1, rfl, HNOO.out.2.2⟩
      ·skip
       go_simp
       refine hK _ _ ?_
       clear hK K9
       try simp only [Act.put, sA9, sZ9, sS9]
       refine wpAnyIn_ready (rs := [1]) (by kernel_rfl) (by simp) ?_
       refine AllReadyIn.cons rfl (fun K9 hK => ?_) AllReadyIn.nil
       go_simp
       refine hK _ _ ?_
       clear hK K9
       try simp only [Act.put, sA9, sZ9, sS9]
       refine wpAnyIn_take (i := 4) (v := ?vrg15) rfl rfl (by kernel_rfl) (by kernel_rfl) (by kernel_rfl) (fun _ _ _ h => h) ⟨Or.inl ⟨by rfl, ?yrg15⟩, fun _ => rfl⟩ ?rrg15
       case yrg15 => intro w; go_simp; first | done | with_reducible rfl
       case' rrg15 => try simp only [Act.put, sA9, sZ9, sS9]
       refine wpAnyIn_ready (rs := [10]) (by kernel_rfl) (by simp) ?_
       refine AllReadyIn.cons rfl (fun K9 hK => ?_) AllReadyIn.nil
       go_simp
       refine ⟨hdd _, ?_⟩
       refine (round_wide HR9.out).mono ?_
       rintro e V2 ⟨own3, hg3, (⟨rfl, hj3⟩ | ⟨rfl, hj3⟩)⟩
       ·refine hK _ _ ?_
        clear hK K9
        try simp only [Act.put, sA9, sZ9, sS9]
        refine wpAnyIn_ready (rs := [11]) (by kernel_rfl) (by simp) ?_
        refine AllReadyIn.cons rfl (fun K9 hK => ?_) AllReadyIn.nil
        go_simp
        refine hK _ _ ?_
        clear hK K9
        try simp only [Act.put, sA9, sZ9, sS9]
        refine wpAnyIn_done (by kernel_rfl) ?_ _
        have HYES := hid (HKY.out own3 V2 hg3 hj3)
        clear hg3 hj3
        gi_wp2
        exact ⟨own3, HYES.out⟩
       ·refine hK _ _ ?_
        clear hK K9
        try simp only [Act.put, sA9, sZ9, sS9]
        refine wpAnyIn_ready (rs := [11]) (by kernel_rfl) (by simp) ?_
        refine AllReadyIn.cons rfl (fun K9 hK => ?_) AllReadyIn.nil
        go_simp
        refine hK _ _ ?_
        clear hK K9
        try simp only [Act.put, sA9, sZ9, sS9]
        refine wpAnyIn_done (by kernel_rfl) ?_ _
        have HNOO := hid (HKN.out own3 V2 hg3 hj3)
        clear hg3 hj3
        gi_wp2
        exact ⟨own3, HNOO.out.1, rfl, HNOO.out.2.2⟩
     ·skip
      go_simp
      refine hK _ _ ?_
      clear hK K9
      try simp only [Act.put, sA9, sZ9, sS9]
      refine wpAnyIn_take (i := 4) (v := ?vrg16) rfl rfl (by kernel_rfl) (by kernel_rfl) (by kernel_rfl) (fun _ _ _ h => h) ⟨Or.inl ⟨by rfl, ?yrg16⟩, fun _ => rfl⟩ ?rrg16
      case yrg16 => intro w; go_simp; first | done | with_reducible rfl
      case' rrg16 => try simp only [Act.put, sA9, sZ9, sS9]
      refine wpAnyIn_ready (rs := [0, 9]) (by kernel_rfl) (by simp) ?_
      refine AllReadyIn.cons rfl (fun K9 hK => ?_) (AllReadyIn.cons rfl (fun K9 hK => ?_) AllReadyIn.nil)
      ·skip
       go_simp
       refine hK _ _ ?_
       clear hK K9
       try simp only [Act.put, sA9, sZ9, sS9]
       refine wpAnyIn_ready (rs := [9]) (by kernel_rfl) (by simp) ?_
       refine AllReadyIn.cons rfl (fun K9 hK => ?_) AllReadyIn.nil
       go_simp
       refine hK _ _ ?_
       clear hK K9
       try simp only [Act.put, sA9, sZ9, sS9]
       refine wpAnyIn_ready (rs := [10]) (by kernel_rfl) (by simp) ?_
       refine AllReadyIn.cons rfl (fun K9 hK => ?_) AllReadyIn.nil
       go_simp
       refine ⟨hdd _, ?_⟩
       refine (round_wide HR9.out).mono ?_
       rintro e V2 ⟨own3, hg3, (⟨rfl, hj3⟩ | ⟨rfl, hj3⟩)⟩
       ·refine hK _ _ ?_
        clear hK K9
        try simp only [Act.put, sA9, sZ9, sS9]
        refine wpAnyIn_ready (rs := [11]) (by kernel_rfl) (by simp) ?_
        refine AllReadyIn.cons rfl (fun K9 hK => ?_) AllReadyIn.nil
        go_simp
        refine hK _ _ ?_
        clear hK K9
        try simp only [Act.put, sA9, sZ9, sS9]
        refine wpAnyIn_done (by kernel_rfl) ?_ _
        have HYES := hid (HKY.out own3 V2 hg3 hj3)
        clear hg3 hj3
        gi_wp2
        exact ⟨own3, HYES.out⟩
       ·refine hK _ _ ?_
        clear hK K9
        try simp only [Act.put, sA9, sZ9, sS9]
        refine wpAnyIn_ready (rs := [11]) (by kernel_rfl) (by simp) ?_
        refine AllReadyIn.cons rfl (fun K9 hK => ?_) AllReadyIn.nil
        go_simp
        refine hK _ _ ?_
        clear hK K9
        try simp only [Act.put, sA9, sZ9, sS9]
        refine wpAnyIn_done (by kernel_rfl) ?_ _
        have HNOO := hid (HKN.out own3 V2 hg3 hj3)
        clear hg3 hj3
        gi_wp2
        exact ⟨own3, HNOO.out.1, rfl, HNOO.out.2.2⟩
      ·skip
       go_simp
       refine hK _ _ ?_
       clear hK K9
       try simp only [Act.put, sA9, sZ9, sS9]
       refine wpAnyIn_ready (rs := [0]) (by kernel_rfl) (by simp) ?_
       refine AllReadyIn.cons rfl (fun K9 hK => ?_) AllReadyIn.nil
       go_simp
       refine hK _ _ ?_
       clear hK K9
       try simp only [Act.put, sA9, sZ9, sS9]
       refine wpAnyIn_ready (rs := [10]) (by kernel_rfl) (by simp) ?_
       refine AllReadyIn.cons rfl (fun K9 hK => ?_) AllReadyIn.nil
       go_simp
       refine ⟨hdd _, ?_⟩
       refine (round_wide HR9.out).mono ?_
       rintro e V2 ⟨own3, hg3, (⟨rfl, hj3⟩ | ⟨rfl, hj3⟩)⟩
       ·refine hK _ _ ?_
        clear hK K9
        try simp only [Act.put, sA9, sZ9, sS9]
        refine wpAnyIn_ready (rs := [11]) (by kernel_rfl) (by simp) ?_
        refine AllReadyIn.cons rfl (fun K9 hK => ?_) AllReadyIn.nil
        go_simp
        refine hK _ _ ?_
        clear hK K9
        try simp only [Act.put, sA9, sZ9, sS9]
        refine wpAnyIn_done (by kernel_rfl) ?_ _
        have HYES := hid (HKY.out own3 V2 hg3 hj3)
        clear hg3 hj3
        gi_wp2
        exact ⟨own3, HYES.out⟩
       ·refine hK _ _ ?_
        clear hK K9
        try simp only [Act.put, sA9, sZ9, sS9]
        refine wpAnyIn_ready (rs := [11]) (by kernel_rfl) (by simp) ?_
        refine AllReadyIn.cons rfl (fun K9 hK => ?_) AllReadyIn.nil
        go_simp
        refine hK _ _ ?_
        clear hK K9
        try simp only [Act.put, sA9, sZ9, sS9]
        refine wpAnyIn_done (by kernel_rfl) ?_ _
        have HNOO := hid (HKN.out own3 V2 hg3 hj3)
        clear hg3 hj3
        gi_wp2
        exact ⟨own3, HNOO.out.1, rfl, HNOO.out.2.2⟩
     ·skip
      go_simp
      refine hK _ _ ?_
      clear hK K9
      try simp only [Act.put, sA9, sZ9, sS9]
      refine wpAnyIn_ready (rs := [0, 1]) (by kernel_rfl) (by simp) ?_
      refine AllReadyIn.cons rfl (fun K9 hK => ?_) (AllReadyIn.cons rfl (fun K9 hK => ?_) AllReadyIn.nil)
      ·skip
       go_simp
       refine hK _ _ ?_
       clear hK K9
       try simp only [Act.put, sA9, sZ9, sS9]
       refine wpAnyIn_ready (rs := [1]) (by kernel_rfl) (by simp) ?_
       refine AllReadyIn.cons rfl (fun K9 hK => ?_) AllReadyIn.nil
       go_simp
       refine hK _ _ ?_
       clear hK K9
       try simp only [Act.put, sA9, sZ9, sS9]
       refine wpAnyIn_take (i := 4) (v := ?vrg17) rfl rfl (by kernel_rfl) (by kernel_rfl) (by kernel_rfl) (fun _ _ _ h => h) ⟨Or.inl ⟨by rfl, ?yrg17⟩, fun _ => rfl⟩ ?rrg17
       case yrg17 => intro w; go_simp; first | done | with_reducible rfl
       case' rrg17 => try simp only [Act.put, sA9, sZ9, sS9]
       refine wpAnyIn_ready (rs := [10]) (by kernel_rfl) (by simp) ?_
       refine AllReadyIn.cons rfl (fun K9 hK => ?_) AllReadyIn.nil
       go_simp
       refine ⟨hdd _, ?_⟩
       refine (round_wide HR9.out).mono ?_
       rintro e V2 ⟨own3, hg3, (⟨rfl, hj3⟩ | ⟨rfl, hj3⟩)⟩
       ·refine hK _ _ ?_
        clear hK K9
        try simp only [Act.put, sA9, sZ9, sS9]
        refine wpAnyIn_ready (rs := [11]) (by kernel_rfl) (by simp) ?_
        refine AllReadyIn.cons rfl (fun K9 hK => ?_) AllReadyIn.nil
        go_simp
        refine hK _ _ ?_
        clear hK K9
        try simp only [Act.put, sA9, sZ9, sS9]
        refine wpAnyIn_done (by kernel_rfl) ?_ _
        have HYES := hid (HKY.out own3 V2 hg3 hj3)
        clear hg3 hj3
        gi_wp2
        exact ⟨own3, HYES.out⟩
       ·refine hK _ _ ?_
        clear hK K9
        try simp only [Act.put, sA9, sZ9, sS9]
        refine wpAnyIn_ready (rs := [11]) (by kernel_rfl) (by simp) ?_
        refine AllReadyIn.cons rfl (fun K9 hK => ?_) AllReadyIn.nil
        go_simp
        refine hK _ _ ?_
        clear hK K9
        try simp only [Act.put, sA9, sZ9, sS9]
        refine wpAnyIn_done (by kernel_rfl) ?_ _
        have HNOO := hid (HKN.out own3 V2 hg3 hj3)
        clear hg3 hj3
        gi_wp2
        exact ⟨own3, HNOO.out.1, rfl, HNOO.out.2.2⟩
      ·skip
       go_simp
       refine hK _ _ ?_
       clear hK K9
       try simp only [Act.put, sA9, sZ9, sS9]
       refine wpAnyIn_take (i := 4) (v := ?vrg18) rfl rfl (by kernel_rfl) (by kernel_rfl) (by kernel_rfl) (fun _ _ _ h => h) ⟨Or.inl ⟨by rfl, ?yrg18⟩, fun _ => rfl⟩ ?rrg18
       case yrg18 => intro w; go_simp; first | done | with_reducible rfl
       case' rrg18 => try simp only [Act.put, sA9, sZ9, sS9]
       refine wpAnyIn_ready (rs := [0]) (by kernel_rfl) (by simp) ?_
       refine AllReadyIn.cons rfl (fun K9 hK => ?_) AllReadyIn.nil
       go_simp
       refine hK _ _ ?_
       clear hK K9
       try simp only [Act.put, sA9, sZ9, sS9]
       refine wpAnyIn_ready (rs := [10]) (by kernel_rfl) (by simp) ?_
       refine AllReadyIn.cons rfl (fun K9 hK => ?_) AllReadyIn.nil
       go_simp
       refine ⟨hdd _, ?_⟩
       refine (round_wide HR9.out).mono ?_
       rintro e V2 ⟨own3, hg3, (⟨rfl, hj3⟩ | ⟨rfl, hj3⟩)⟩
       ·refine hK _ _ ?_
        clear hK K9
        try simp only [Act.put, sA9, sZ9, sS9]
        refine wpAnyIn_ready (rs := [11]) (by kernel_rfl) (by simp) ?_
        refine AllReadyIn.cons rfl (fun K9 hK => ?_) AllReadyIn.nil
        go_simp
        refine hK _ _ ?_
        clear hK K9
        try simp only [Act.put, sA9, sZ9, sS9]
        refine wpAnyIn_done (by kernel_rfl) ?_ _
        have HYES := hid (HKY.out own3 V2 hg3 hj3)
        clear hg3 hj3
        gi_wp2
        exact ⟨own3, HYES.out⟩
       ·refine hK _ _ ?_
        clear hK K9
        try simp only [Act.put, sA9, sZ9, sS9]
        refine wpAnyIn_ready (rs := [11]) (by kernel_rfl) (by simp) ?_
        refine AllReadyIn.cons rfl (fun K9 hK => ?_) AllReadyIn.nil
        go_simp
        refine hK _ _ ?_
        clear hK K9
        try simp only [Act.put, sA9, sZ9, sS9]
        refine wpAnyIn_done (by kernel_rfl) ?_ _
        have HNOO := hid (HKN.out own3 V2 hg3 hj3)
        clear hg3 hj3
        gi_wp2
        exact ⟨own3, HNOO.out.1, rfl, HNOO.out.2.2⟩
    -- /REG
   case done =>
    rintro E own2 X hE6 hEn ⟨hj, hv, hoo⟩ hob hv6 hz hdf
    have hVX : Lv (fun k => k ∈ own) V X := (HLV.out.trans HV6.out (E := fun k => k ∈ own) (fun _ _ h => h) (fun _ _ h => h.elim)).trans hv (fun _ _ h => h) (fun b hb h => by
     rcases (HOB.out b h).1 with h1 | h1
     ·exact h1
     ·omega)
    have hJX2 : J (insT prts (i + 1)) own2 X := by rw [insT_next HPR.out]; unfold insP; rw [H4.out]; exact hj
    have hOB2 : ∀ b ∈ own2, (b ∈ own ∨ V.heap.size ≤ b) ∧ b < X.heap.size := fun b hb => ⟨by
     rcases (hob b hb).1 with h | h
     ·exact (HOB.out b h).1
     ·have := HLV.out.size; exact .inr (by omega), (hob b hb).2⟩
    have hlt6 : ∀ E' ∈ Es, E' < wr.heap.size := fun E' h => lt_of_block (HES.out E' h).1
    have hES2 : ∀ E' ∈ E :: Es, X.heap[E']? = some (.deferred (some [])) ∧ V.heap.size ≤ E' ∧ E' ∉ own2 := fun E' h => by
     rcases List.mem_cons.1 h with rfl | h
     ·have := HLV.out.size; exact ⟨hdf, by omega, hEn⟩
     ·obtain ⟨h1, h2, h3⟩ := HES.out E' h
      have h4 := hlt6 E' h
      refine ⟨hv.heap (HV6.out.heap h1 (fun h => h)) h3, h2, fun h5 => ?_⟩
      rcases hoo E' h5 with h6 | h6
      ·exact h3 h6
      ·omega
    have hND2 : (E :: Es).Nodup := List.nodup_cons.2 ⟨fun h => by have := hlt6 E h; omega, HND.out⟩
    have HA := hid hVX; have HBB := hid hJX2; have HC := hid hOB2; have HD := hid hES2; have HF := hid hND2
    have hje : ((i + 1 : Nat) : Int) = (i : Int) + 1 := by omega
    clear hj hv hoo hob hv6 hz hdf hVX hJX2 hOB2 hES2 hND2 hlt6 hEn hE6
    gi_wp2
    refine ⟨⟨.pointer (some ⟨wr.heap.size, 0, none⟩), .pointer (some ⟨wr.heap.size + 1, 0, none⟩), u5, u6, .bool true, .int .i64 (i : Int), .pointer (some ⟨g, i * 2, none⟩), .agg #[.slice q1 n1 c1, .slice q2 n2 c2], .agg #[.slice q1 n1 c1, .slice q2 n2 c2], .func (.func 108) #[] #[.pointer (some ⟨wr.heap.size + 1 + 1, 0, none⟩)], u16, u17, u18, u19, u20, u21, u22, u23, u24, u25, u26, u27, u28, u29, .int .i64 ((i : Int) + 1), i + 1, own2, E :: Es, ⟨by omega, HBB.out, HC.out, HA.out, HD.out, HF.out⟩, ?_⟩, ?_⟩
    rotate_left 1
    ·simp [intOf]; omega
    ·rw [hje]; rfl
   case stop =>
    rintro E cd q own2 X hE6 hEn hq ⟨rfl, ⟨q', hq', hjx⟩, hv⟩ hob hv6 hz hdf
    have hVX : Lv (fun k => k ∈ own) V X := (HLV.out.trans HV6.out (E := fun k => k ∈ own) (fun _ _ h => h) (fun _ _ h => h.elim)).trans hv (fun _ _ h => h) (fun b hb h => by
     rcases (HOB.out b h).1 with h1 | h1
     ·exact h1
     ·omega)
    have hVW : Lv (fun k => k ∈ own ∨ False) W X := HVV.out.trans hVX (fun _ _ h => h.elim) (fun _ _ h => .inl h)
    have hlt6 : ∀ E' ∈ Es, E' < wr.heap.size := fun E' h => lt_of_block (HES.out E' h).1
    have hES2 : ∀ E' ∈ E :: Es, X.heap[E']? = some (.deferred (some [])) ∧ V.heap.size ≤ E' ∧ E' ∉ own2 := fun E' h => by
     rcases List.mem_cons.1 h with rfl | h
     ·have := HLV.out.size; exact ⟨hdf, by omega, hEn⟩
     ·obtain ⟨h1, h2, h3⟩ := HES.out E' h
      have h4 := hlt6 E' h
      refine ⟨hv.heap (HV6.out.heap h1 (fun h => h)) h3, h2, fun h5 => ?_⟩
      rcases (hob E' h5).1 with h6 | h6
      ·exact h3 h6
      ·omega
    have hND2 : (E :: Es).Nodup := List.nodup_cons.2 ⟨fun h => by have := hlt6 E h; omega, HND.out⟩
    have hOB2 : ∀ b ∈ own2, (b ∈ own ∨ W.heap.size ≤ b) ∧ b < X.heap.size := fun b hb => ⟨by
     rcases (hob b hb).1 with h | h
     ·rcases (HOB.out b h).1 with h1 | h1
      ·exact .inl h1
      ·exact .inr (by omega)
     ·have := HLV.out.size; exact .inr (by omega), (hob b hb).2⟩
    have HA := hid hVW; have HC := hid hOB2; have HD := hid hES2; have HF := hid hND2; have HX9 := hid hjx; have HQ := hid hq'
    clear hv hob hv6 hz hdf hVX hVW hOB2 hES2 hND2 hlt6 hEn hE6 hjx hq' hq
    gi_wp2
    refine leaves_marks (fun _ => results_none rfl _ _ _) (E :: Es) X (fun E' h => (HD.out E' h).1) HF.out (fun W' hW' => ?_)
    exact ⟨⟨_, rfl⟩, own2, fun b hb => ⟨(HC.out b hb).1, Nat.lt_of_lt_of_le (HC.out b hb).2 hW'.size⟩, HA.out.trans hW' (fun _ _ h => h) (fun b hb h => by have := (HD.out b h).2.1; omega), trivial, .inr ⟨q', HQ.out, HJX.out _ _ _ _ HX9.out (hW'.mono (fun b _ h => ⟨fun hb => (HD.out b h).2.2 hb, by have := (HD.out b h).2.1; omega⟩))⟩⟩
  ·obtain rfl : i = n := by omega
   clear hrow
   have HYY := HVV.out.trans HLV.out (E := fun k => k ∈ own ∨ False) (fun _ _ h => h.elim) (fun _ _ h => .inl h)
   gi_wp2_with (fail)
   refine leaves_marks (fun _ => results_none rfl _ _ _) Es wr (fun E h => (HES.out E h).1) HND.out (fun W' hW' => ?_)
   exact ⟨⟨_, rfl⟩, own1, fun b hb => ⟨(HOB.out b hb).1.imp id (fun h => by omega), Nat.lt_of_lt_of_le (HOB.out b hb).2 hW'.size⟩, HYY.trans hW' (fun _ _ h => h) (fun b hb h => by have := (HES.out b h).2.1; omega), trivial, .inl (HJ.out _ _ _ _ HJ1.out (hW'.mono (fun b _ h => ⟨fun hb => (HES.out b h).2.2 hb, by have := (HES.out b h).2.1; omega⟩)))⟩
end Go.Proofs.YtggpjapmhakklaaGreat
