/- The texts G92, joined. No statement is proved here. -/
import Derived.Test.YtggpjapmhakklaaGreatQL31
import Derived.Test.YtggpjapmhakklaaGreatQL21
import Derived.Test.YtggpjapmhakklaaGreatQL51
import Derived.Test.YtggpjapmhakklaaGreatQL22
import Derived.Test.YtggpjapmhakklaaGreatQL46
set_option maxRecDepth 100000
set_option maxHeartbeats 8000000
set_option linter.unusedVariables false
set_option linter.unusedSimpArgs false
namespace Go.Proofs.YtggpjapmhakklaaGreat
open Go.Lib (hid)
open Go.RowKit Go.Maps
attribute [local go_sem] Oper.semAt_some
theorem cloneI_any (p : Option Addr) (n c : Nat) (xs : List Int) (w : World) (hn : xs.length = n) (hb : n ≤ 1048576) (hs : IntsAt w (.slice p n c) xs) :
  Calls Tryz.prog 79 #[.slice p n c] w (fun e w' => ∃ v', e = .returned v' ∧ w'.ownsRow w.heap.size 3 1 v' n (xs.map (Value.int .i64)) ∧ Ext w w') := by
 by_cases h0 : n = 0
 ·subst h0
  obtain rfl : xs = [] := List.eq_nil_of_length_eq_zero hn
  cases p with
  | none =>
   refine (Tryz.slices_Clone_int_nil 0 c w).mono ?_
   rintro e w1 ⟨rfl, rfl⟩
   exact ⟨_, rfl, World.ownsRow_nil _ _ _ _, Ext.refl _⟩
  | some a =>
   refine (Tryz.slices_Clone_int_zero a c w).mono ?_
   rintro e w1 ⟨v', rfl, h1, -, h2⟩
   exact ⟨_, rfl, h1, h2⟩
 ·obtain ⟨x0, hx0⟩ := get_some (xs := xs) (k := 0) (by omega)
  obtain ⟨-, hc⟩ := hs.cl
  obtain ⟨b, off, rfl, -⟩ := hc 0 x0 hx0
  have hcells : ∀ j, j < xs.length → w.cell? ⟨b, off + j, none⟩ = some (.int .i64 (xs.getD j 0)) := fun j hj => by
   obtain ⟨y, hy⟩ := get_some hj
   obtain ⟨b', off', e, h⟩ := hc j y hy
   cases e
   rw [h, List.getD_eq_getElem?_getD, hy]; rfl
  refine (Tryz.slices_Clone_int b off n c xs w (by omega) (by omega) hcells).mono ?_
  rintro e w1 ⟨v', rfl, h1, -, h2⟩
  rw [List.take_of_length_le (by omega)] at h1
  exact ⟨_, rfl, h1, h2⟩
theorem blk5x {W : World} {g : Nat} {a b c d e : Value} {t : TypeId} (h : W.heap[g]? = some (.cells #[a, b, c, d, e] t (0, 0))) : W.cell? ⟨g, 0, none⟩ = some a ∧ W.cell? ⟨g, 1, none⟩ = some b ∧ W.cell? ⟨g, 2, none⟩ = some c ∧ W.cell? ⟨g, 3, none⟩ = some d ∧ W.cell? ⟨g, 4, none⟩ = some e := by
 simp [World.cell?, h]
theorem cells_any (i j wv : Int) (pv : Value) (hpv : ∃ q n c, pv = .slice q n c) (r : Option Addr) (rc : Nat) (rs : List Int) (w : World) (hb : rs.length ≤ 100000) (hr : IntsAt w (.slice r rs.length rc) rs) :
  Calls Tryz.prog 47 #[.agg #[.int .i64 i, .int .i64 j, pv, .slice r rs.length rc, .int .i64 wv]] w fun e w' => (∃ v', e = .returned v' ∧ IntsOwn w.heap.size w' v' (rs ++ [wv])) ∧ Ext w w' := by
 obtain ⟨q, n, c, rfl⟩ := hpv
 have hb2 : rs.length ≤ 1048576 := by omega
 obtain ⟨g0, hg0⟩ : ∃ g, w.heap.size = g := ⟨_, rfl⟩
 obtain ⟨W0, hW0⟩ : ∃ W0, w.alloc (.cells #[.int .i64 i, .int .i64 j, .slice q n c, .slice r rs.length rc, .int .i64 wv] 124) = W0 := ⟨_, rfl⟩
 have E0 : Ext w W0 := by rw [← hW0]; exact (Ext.refl w).alloc _
 have B0 : W0.heap[g0]? = some (.cells #[.int .i64 i, .int .i64 j, .slice q n c, .slice r rs.length rc, .int .i64 wv] 124 (0, 0)) := by rw [← hW0]; exact blk_at hg0.symm
 have HSO : Hid (∀ W, Ext W0 W → W.cell? ⟨g0, 3, none⟩ = some (.slice r rs.length rc) ∧ W.cell? ⟨g0, 4, none⟩ = some (.int .i64 wv)) := hid (fun W h => by
  obtain ⟨-, -, -, y3, y4⟩ := blk5x (h.blk B0)
  exact ⟨y3, y4⟩)
 have HRS := hid (hr.ext E0); have HE0 := hid E0
 replace hb := hb2
 clear hr E0 B0 hb2
 go_enter Tryz.func47, Tryz.ntmps47
 go_wp2_with (fail)
 try rw [hW0]
 try rw [hg0]
 clear hW0
 refine wp_region_last (S := (fun W => W.cell? ⟨g0, 3, none⟩ = some (.slice r rs.length rc) ∧ W.cell? ⟨g0, 4, none⟩ = some (.int .i64 wv))) (by kernel_rfl) (HSO.out _ (Ext.refl W0).drew) (fun hHeld => ?_)
 refine tkL (some 3) 0 ?vc0 rfl (by kernel_rfl) (by kernel_rfl) (fun _ _ _ h => h) (Or.inl ⟨by rfl, ?hyc0⟩) (by assumption) ?rc0
 case hyc0 => intro w hSw; (try dsimp only at hSw); go_simp; first | done | with_reducible rfl
 case' rc0 => try simp only [Act.put, sA9, sZ9, sS9]
 refine tkL (some 4) 1 ?vc1 rfl (by kernel_rfl) (by kernel_rfl) (fun _ _ _ h => h) (Or.inl ⟨by rfl, ?hyc1⟩) (by assumption) ?rc1
 case hyc1 => intro w hSw; (try dsimp only at hSw); go_simp; first | done | with_reducible rfl
 case' rc1 => try simp only [Act.put, sA9, sZ9, sS9]
 refine tkL (some 6) 3 ?vc2 rfl (by kernel_rfl) (by kernel_rfl) (fun _ _ _ h => h) (Or.inl ⟨by rfl, ?hyc2⟩) (by assumption) ?rc2
 case hyc2 => intro w hSw; (try dsimp only at hSw); go_simp; first | done | with_reducible rfl
 case' rc2 => try simp only [Act.put, sA9, sZ9, sS9]
 refine tkL (some 7) 4 ?vc3 rfl (by kernel_rfl) (by kernel_rfl) (fun _ _ _ h => h) (Or.inl ⟨by rfl, ?hyc3⟩) (by assumption) ?rc3
 case hyc3 => intro w hSw; (try dsimp only at hSw); go_simp; first | done | with_reducible rfl
 case' rc3 => try simp only [Act.put, sA9, sZ9, sS9]
 refine twoL (i := 2) (j := 5) rfl rfl (by kernel_rfl) (fun K9 hK => ?_) (fun K9 hK => ?_)
 ·skip
  go_simp
  refine (cloneI_any r rs.length rc rs _ rfl hb (HRS.out.ext (Ext.refl W0).drew)).mono ?_
  rintro e w4 ⟨v4, rfl, hv4, hE4⟩
  have EX : Ext W0 w4 := (Ext.refl W0).drew.trans hE4
  obtain ⟨q4, d4, rfl⟩ := row_shape hv4
  refine hK.out _ _ (HSO.out _ EX) (fun hH9 => ?_)
  clear hK K9
  try simp only [Act.put, sA9, sZ9, sS9]
  refine oneL (i := 5) rfl (by kernel_rfl) (fun K9 hK => ?_)
  go_simp
  have hEa : Ext w4 (w4.alloc (.cells #[.int .i64 wv] 3)) := (Ext.refl w4).alloc _
  refine hK.out _ _ (HSO.out _ (EX.trans hEa)) (fun hH9 => ?_)
  clear hK K9
  try simp only [Act.put, sA9, sZ9, sS9]
  refine oneL (i := 6) rfl (by kernel_rfl) (fun K9 hK => ?_)
  have hs4 := EX.size_le
  have hr4 : w4.ownsRow W0.heap.size 3 1 (.slice q4 rs.length d4) rs.length (rs.map (Value.int .i64)) := hv4
  refine step_append_ints _ rfl (.tmp 5) (.tmp 8) rfl W0.heap.size (.slice q4 rs.length d4) rs.length rs rfl (ownsRow_ext hr4 hEa) (some ⟨w4.heap.size, 0, none⟩) 1 1 [wv] rfl (own_one w4 wv).at (by unfold maxLen; omega) (by omega) (by first | omega | (simp; omega)) ?_
  intro v7 w7 hown7 hgr7 hat7
  obtain ⟨q7, d7, rfl⟩ := row_shape hown7
  have EF : Ext W0 w7 := Ext.grown (EX.trans hEa) hgr7 (fun b hb => (World.ownsRow.lt hr4 b hb).1)
  refine hK.out _ _ (HSO.out _ EF) (fun hH9 => ?_)
  clear hK K9
  try simp only [Act.put, sA9, sZ9, sS9]
  refine lastL (i := 7) rfl (by kernel_rfl) (by kernel_rfl) (fun K9 hK => ?_)
  go_simp
  refine hK.out _ _ ?_
  clear hK K9
  try simp only [Act.put, sA9, sZ9, sS9]
  have HI7 : Hid (IntsOwn w.heap.size w7 (.slice q7 (rs.length + 1) d7) (rs ++ [wv])) := hid (IntsOwn.weak (IntsOwn.mk hown7 (by simp)) HE0.out.size_le)
  have HE7 := hid (HE0.out.trans EF)
  clear hown7 hgr7 hat7 EF EX hEa hr4 hs4 hv4 hE4 hHeld hH9
  go_wp2
  go_ret
  exact ⟨⟨_, rfl, HI7.out⟩, HE7.out⟩
 ·skip
  go_simp
  have hEa : Ext W0 (W0.drew.alloc (.cells #[.int .i64 wv] 3)) := (Ext.refl W0).drew.alloc _
  refine hK.out _ _ (HSO.out _ hEa) (fun hH9 => ?_)
  clear hK K9
  try simp only [Act.put, sA9, sZ9, sS9]
  refine oneL (i := 2) rfl (by kernel_rfl) (fun K9 hK => ?_)
  go_simp
  refine (cloneI_any r rs.length rc rs _ rfl hb (HRS.out.ext hEa)).mono ?_
  rintro e w4 ⟨v4, rfl, hv4, hE4⟩
  have EX : Ext W0 w4 := hEa.trans hE4
  obtain ⟨q4, d4, rfl⟩ := row_shape hv4
  refine hK.out _ _ (HSO.out _ EX) (fun hH9 => ?_)
  clear hK K9
  try simp only [Act.put, sA9, sZ9, sS9]
  refine oneL (i := 6) rfl (by kernel_rfl) (fun K9 hK => ?_)
  have hs4 := EX.size_le
  have hr4 : w4.ownsRow W0.heap.size 3 1 (.slice q4 rs.length d4) rs.length (rs.map (Value.int .i64)) := ownsRow_weak hv4 hEa.size_le
  have hone : IntsAt w4 (.slice (some ⟨W0.drew.heap.size, 0, none⟩) 1 1) [wv] := ((own_one W0.drew wv).ext hE4).at
  refine step_append_ints _ rfl (.tmp 5) (.tmp 8) rfl W0.heap.size (.slice q4 rs.length d4) rs.length rs rfl hr4 (some ⟨W0.drew.heap.size, 0, none⟩) 1 1 [wv] rfl hone (by unfold maxLen; omega) (by omega) (by first | omega | (simp; omega)) ?_
  intro v7 w7 hown7 hgr7 hat7
  obtain ⟨q7, d7, rfl⟩ := row_shape hown7
  have EF : Ext W0 w7 := Ext.grown EX hgr7 (fun b hb => (World.ownsRow.lt hr4 b hb).1)
  refine hK.out _ _ (HSO.out _ EF) (fun hH9 => ?_)
  clear hK K9
  try simp only [Act.put, sA9, sZ9, sS9]
  refine lastL (i := 7) rfl (by kernel_rfl) (by kernel_rfl) (fun K9 hK => ?_)
  go_simp
  refine hK.out _ _ ?_
  clear hK K9
  try simp only [Act.put, sA9, sZ9, sS9]
  have HI7 : Hid (IntsOwn w.heap.size w7 (.slice q7 (rs.length + 1) d7) (rs ++ [wv])) := hid (IntsOwn.weak (IntsOwn.mk hown7 (by simp)) HE0.out.size_le)
  have HE7 := hid (HE0.out.trans EF)
  clear hown7 hgr7 hat7 EF EX hEa hr4 hone hs4 hv4 hE4 hHeld hH9
  go_wp2
  go_ret
  exact ⟨⟨_, rfl, HI7.out⟩, HE7.out⟩
theorem accessed_call (a b c d : Value) (w : World) : Calls Tryz.prog 24 #[.agg #[a, b, c, d]] w fun e w' =>
  e = .returned (.func (.func 46) #[] #[.pointer (some ⟨w.heap.size, 0, none⟩)]) ∧ w' = w.alloc (.cells #[a, b, c, d] 57) := by
 go_enter Tryz.func24, Tryz.ntmps24
 go_wp2
 go_ret
 exact ⟨rfl, rfl⟩
theorem own_nextZ' {Z : Nat → Prop} {own own' : List Nat} {W W' : World} (h : ∀ b ∈ own, b < W.heap.size ∧ ¬ Z b) (hg : Grew own own' W W') (hZ : ∀ b, Z b → b < W.heap.size) : ∀ b ∈ own', b < W'.heap.size ∧ ¬ Z b := fun b hb => by
 obtain ⟨h1, h2⟩ := hg.2 b hb
 rcases h1 with h1 | h1
 ·exact ⟨h2, (h b h1).2⟩
 ·exact ⟨h2, fun hz => by have := hZ b hz; omega⟩
def evL (es : List Ev) (k : Nat) : List Int := cellsL (es.map (fun e => e.2)) k
theorem evL_next {es : List Ev} {k : Nat} {e : Ev} (h : es[k]? = some e) : evL es (k + 1) = evL es k ++ (e.2.1 ++ [e.2.2]) := by
 unfold evL
 rw [cells_next (u := e.2) (by rw [List.getElem?_map, h]; rfl), List.append_assoc]
theorem evL_pre (es : List Ev) (k : Nat) : ∃ r, evL es es.length = evL es k ++ r := by
 unfold evL
 have h := cells_pre (es.map (fun e => e.2)) k
 rwa [List.length_map] at h
def encI1 (x : Int) : Array Value := #[.int .i64 x]
theorem accessed_seqB (base m m' PX Be M c : Nat) (q : Option Addr) (a b d : Value) (es : List Ev) (Z : Nat → Prop) (W1 w : World) (hM : es.length = M) (hM2 : M ≤ 120) (hrd : ∀ e ∈ es, e.2.1.length ≤ 1000) (hev : EvsOwn Be W1 (.slice q M c) es) (hE : Ext W1 w)
  (hB : w.heap[PX]? = some (.cells #[a, b, d, .slice q M c] 57 (0, 0))) (hZ : ∀ b, Z b → b < w.heap.size) (hZP : Z PX) (hZA : ∀ b, b < W1.heap.size → Z b) :
  SeqB base Fence.wide m m' Tryz.prog 46 #[.pointer (some ⟨PX, 0, none⟩)] encI1 (fun _ _ => True) (fun _ => True) (fun _ => False) Z (evL es M) w := by
 intro l J Jx own W hvW hJ hJx hown hY h0
 have hBW := hvW.heap hB (fun h => h)
 have hLW : Lv (fun b => W1.heap.size ≤ b) W1 W := (hE.lv (D := fun _ => False)).trans hvW (fun _ _ h => h.elim) (fun _ _ h => h.elim)
 have hZW : ∀ b, Z b → b < W.heap.size := fun b h => Nat.lt_of_lt_of_le (hZ b h) hvW.size
 have HB := hid hBW; have HLW := hid hLW; have HY := hid hY; have HOWN := hid hown; have HZW := hid hZW; have H0 := hid h0; have HJ := hid hJ; have HZP := hid hZP; have HZA := hid hZA; have HM := hid hM; have HEV := hid hev; have HRD := hid hrd
 obtain ⟨b0, b1, b2, b3, -⟩ := blk4f hBW
 clear hvW hB hE hBW hLW hZ hZW hY hown h0 hJ hJx hZP hZA hM hev hrd
 have hdd : ∀ k : Nat, (Fence.wide.depth.isSome = true → 1 ≤ k) := fun k h => by cases h
 show CallsIn Fence.wide m Tryz.prog 46 #[.func (.yield l) #[] #[], .pointer (some ⟨PX, 0, none⟩)] W _
 refine callsIn_of_wp Tryz.func46 rfl trivial ?_ rfl
 simp only [Tryz.ntmps46, List.size_toArray, List.length_cons, List.length_nil, Nat.reduceAdd, Nat.reduceSub, Array.replicate_succ, Array.replicate_zero, List.push_toArray, List.append_toArray, List.nil_append, List.cons_append]
 gi_wp2_with (fail)
 gi_loopw [10] (fun iv wr => ∃ (i : Nat) (own1 : List Nat), i ≤ M ∧ iv = .int .i64 i ∧ J (evL es i) own1 wr ∧ Grew own own1 W wr) (fun iv _ => M - (intOf iv).toNat)
 case atStart => exact ⟨0, own, by omega, rfl, H0.out, Grew.refl own W (fun b hb => (HOWN.out b hb).1)⟩
 case round =>
  obtain ⟨i, own1, hi, rfl, hj, hg⟩ := hrel
  by_cases hlt : i < M
  ·obtain ⟨e, he⟩ := get_some (xs := es) (k := i) (by rw [HM.out]; exact hlt)
   obtain ⟨o, g, d1, r, rk, rfl, hol, c0, c1, c2, c3, c4, hpt, hrr⟩ := HEV.out.elem he
   have hLwr : Lv (fun b => W1.heap.size ≤ b) W1 wr := HLW.out.trans hg.1 (fun _ _ h => h) (fun b _ h => by
    rcases Nat.lt_or_ge b W1.heap.size with h2 | h2
    ·exact absurd (HZA.out b h2) (HOWN.out b h).2
    ·exact h2)
   have e0 := lvCell hLwr c0 (fun h => by omega); have e1 := lvCell hLwr c1 (fun h => by omega); have e2 := lvCell hLwr c2 (fun h => by omega); have e3 := lvCell hLwr c3 (fun h => by omega); have e4 := lvCell hLwr c4 (fun h => by omega)
   have hrow : IntsAt wr (.slice r e.2.1.length rk) e.2.1 := IntsOwn.at (row_lv hrr hLwr (fun b hb h => by have := (World.ownsRow.lt hrr b hb).2; omega))
   have HROW := hid hrow
   have hrl := HRD.out e (List.mem_of_getElem? he)
   have HNX := hid (evL_next he)
   have HPR : Hid (∃ t, evL es M = evL es i ++ (e.2.1 ++ [e.2.2]) ++ t) := hid (by
    obtain ⟨t, ht⟩ := evL_pre es (i + 1)
    rw [HM.out, evL_next he] at ht
    exact ⟨t, ht⟩)
   have HJ1 := hid hj; have HG1 := hid hg
   have hiI : (i : Int) < (M : Int) := by omega
   clear hj hg he hrr hpt hLwr c0 c1 c2 c3 c4 hrow b0 b1 b2 b3
   gi_wp2_with (fail)
   refine ⟨trivial, hdd _, ?_⟩
   have EA : Ext wr (wr.alloc (.cells #[.int .i64 (e.1.1 : Int), .int .i64 (e.1.2.1 : Int), .slice (some ⟨g, 0, none⟩) e.1.2.2.length d1, .slice r e.2.1.length rk, .int .i64 e.2.2] 124)) := (Ext.refl wr).alloc _
   refine (callsIn_wide.2 (cells_any _ _ _ _ ⟨_, _, _, rfl⟩ r rk e.2.1 _ (by omega) (HROW.out.ext EA))).mono ?_
   rintro e' w2 ⟨⟨v2, rfl, hv2⟩, hE2⟩
   obtain ⟨row, hrow⟩ : ∃ row, e.2.1 ++ [e.2.2] = row := ⟨_, rfl⟩
   rw [hrow] at hv2 HNX HPR
   have hrowl : row.length ≤ 1001 := by rw [← hrow]; simp; omega
   obtain ⟨R, hR⟩ : ∃ R, row.length = R := ⟨_, rfl⟩
   obtain ⟨q2, d2, rfl⟩ : ∃ q2 d2, v2 = .slice q2 R d2 := by obtain ⟨a, b, h⟩ := row_shape hv2; exact ⟨a, b, by rw [h, hR]⟩
   have EX := EA.trans hE2
   have HRB : Hid (∀ b o, q2 = some ⟨b, o, none⟩ → wr.heap.size ≤ b ∧ b < w2.heap.size) := hid (fun b o e => by subst e; have h := World.ownsRow.lt hv2 b rfl; have := EA.size_le; omega)
   have HV2 := hid hv2.at; have HR := hid hR
   have HJ2 : Hid (J (evL es i) own1 w2) := hid (HJ.out _ _ _ _ HJ1.out (EX.lv (D := fun k => k ∉ own1 ∧ base ≤ k)))
   have HG2 : Hid (Grew own own1 W w2) := hid (HG1.out.trans (Grew.same (EX.lv) (fun b hb => (HG1.out.2 b hb).2)))
   have HRO : Hid (∀ b o, q2 = some ⟨b, o, none⟩ → b ∉ own1 ∧ b < w2.heap.size) := hid (fun b o e => ⟨fun hm => by have := (HG1.out.2 b hm).2; have := (HRB.out b o e).1; omega, (HRB.out b o e).2⟩)
   have hR6 : R ≤ 1001 := by omega
   clear hv2 hE2 hrow hrowl hR EX EA e0 e1 e2 e3 e4 HJ1 HG1
   gi_wp2_with (fail)
   obtain ⟨X, hX⟩ : ∃ X, evL es i = X := ⟨_, rfl⟩
   rw [hX] at HNX HPR HJ2
   have HRl := hid (rfl : row = row)
   gi_loopw [17] (fun jv w5 => ∃ (j : Nat) (own3 : List Nat), j ≤ R ∧ jv = .int .i64 j ∧ J (X ++ row.take j) own3 w5 ∧ Grew own own3 W w5 ∧ IntsAt w5 (.slice q2 R d2) row ∧ (∀ b o, q2 = some ⟨b, o, none⟩ → b ∉ own3 ∧ b < w5.heap.size)) (fun jv _ => R - (intOf jv).toNat)
   case atStart => exact ⟨0, own1, by omega, rfl, by simpa using HJ2.out, HG2.out, HV2.out, HRO.out⟩
   case round =>
    obtain ⟨j, own3, hj, rfl, hjj, hgg, hrow, hrb⟩ := hrel
    have HJJ := hid hjj; have HGG := hid hgg; have HRW := hid hrow; have HRBB := hid hrb
    clear hjj hgg hrow hrb HJ2 HG2 HV2 HRO
    by_cases hl2 : j < R
    ·obtain ⟨x, hx⟩ := get_some (xs := row) (k := j) (by rw [HR.out]; exact hl2)
     obtain ⟨-, hcc⟩ := HRW.out.cl
     obtain ⟨b, off, rfl, hcell⟩ := hcc j x hx
     have HTK : Hid (X ++ row.take (j + 1) = (X ++ row.take j) ++ [x]) := hid (by rw [take_next hx, List.append_assoc])
     have hpre : ((X ++ row.take j) ++ [x]) <+: evL es M := by
      obtain ⟨t, ht⟩ := HPR.out
      rw [ht, ← HTK.out]
      exact ⟨row.drop (j + 1) ++ t, by rw [← List.append_assoc, List.append_assoc X, List.take_append_drop]⟩
     obtain ⟨fn, tmps, assign, body, hy, hR⟩ := HY.out _ x own3 _ HJJ.out hpre trivial (own_nextZ' HOWN.out HGG.out HZW.out)
     dsimp only [encI1] at hy
     have HPRE := hid hpre
     have hjI : (j : Int) < (R : Int) := by omega
     clear hx hcc hpre
     gi_wp2_with (fail)
     refine ⟨hdd _, ?_⟩
     refine (round_wide hR).mono ?_
     clear hR
     rintro e' V2 ⟨own4, hg3, (⟨rfl, hj3⟩ | ⟨rfl, hj3⟩)⟩
     ·have HJ3 := hid hj3; have HG3 := hid (HGG.out.trans hg3)
      have HRW3 : Hid (IntsAt V2 (.slice (some ⟨b, off, none⟩) R d2) row) := hid (HRW.out.lv0 hg3.1 (fun b' o e _ h => (HRBB.out b' o e).1 h))
      have HRB3 : Hid (∀ b' o, some (⟨b, off, none⟩ : Addr) = some ⟨b', o, none⟩ → b' ∉ own4 ∧ b' < V2.heap.size) := hid (fun b' o e => by
       obtain ⟨h1, h2⟩ := HRBB.out b' o e
       have := hg3.1.size
       refine ⟨fun hm => ?_, by omega⟩
       rcases (hg3.2 b' hm).1 with h | h
       ·exact h1 h
       ·omega)
      clear hg3 hj3 hy hcell
      gi_wp2
      go_roundw
      case rel => exact ⟨j + 1, own4, by omega, by go_num, by rw [HTK.out]; exact HJ3.out, HG3.out, HRW3.out, HRB3.out⟩
      case measure => simp [intOf] <;> omega
     ·have HJ3 := hid hj3; have HG3 := hid (HGG.out.trans hg3)
      clear hg3 hj3 hy hcell
      gi_wp2
      first
       | refine bodyPost_ret (results_none rfl _ _ _) rfl ?_
       | refine ⟨_, results_none rfl _ _ _, ?_⟩
      exact ⟨⟨_, rfl⟩, own4, HG3.out.2, HG3.out.1.mono (fun _ _ h => .inl h), trivial, .inr ⟨_, HPRE.out, HJ3.out⟩⟩
    ·obtain rfl : j = R := by omega
     have HJN : Hid (J (evL es (i + 1)) own3 wr) := hid (by rw [HNX.out]; have h := HJJ.out; rwa [List.take_of_length_le (by rw [HR.out]; exact Nat.le_refl _)] at h)
     gi_wp2
     go_roundw
     case rel => exact ⟨i + 1, own3, by omega, by go_num, HJN.out, HGG.out⟩
     case measure => simp [intOf] <;> omega
  ·obtain rfl : i = M := by omega
   have HJ1 := hid hj; have HG1 := hid hg
   clear hj hg
   gi_wp2_with (fail)
   first
    | exact bodyPost_end (results_none rfl _ _ _) rfl ⟨⟨_, rfl⟩, own1, HG1.out.2, HG1.out.1.mono (fun _ _ h => .inl h), trivial, .inl HJ1.out⟩
    | exact bodyPost_end (results_none rfl _ _ _) rfl ⟨⟨_, rfl⟩, own1, HG1.out.2, HG1.out.1, .inl HJ1.out⟩
    | exact bodyPost_end (results_none rfl _ _ _) rfl ⟨own1, HG1.out.2, HG1.out.1, .inl HJ1.out⟩
end Go.Proofs.YtggpjapmhakklaaGreat
