import Derived.Test.YtbcjllanigmioaaGreatK49
import Derived.Test.YtbcjllanigmioaaGreatK47
namespace Go.Proofs.YtbcjllanigmioaaGreat
open Go.RowKit Go.Maps
attribute [local go_sem] Oper.semAt_some
def CoI (W1 : World) (RB : Nat) (s : List D3) (own : List Nat) (X : World) : Prop :=
  ∃ row p n c, own = RB :: row ∧ (∀ b ∈ row, W1.heap.size ≤ b) ∧ Lv (fun k => k = RB) W1 X ∧ X.heap[RB]? = some (.cells #[.slice p n c] 42 (0, 0)) ∧ s.length = n ∧
    X.ownsRow W1.heap.size 51 3 (.slice p n c) n (flatD s) ∧ (∀ b, (Value.slice p n c).ownBlock = some b → b ∈ row)
theorem CoI.stable (W1 : World) (RB : Nat) : StableB W1.heap.size (CoI W1 RB) := by
  rintro s own X X' ⟨row, p, n, c, rfl, h1, h2, h3, h4, h5, h6⟩ hv
  exact ⟨row, p, n, c, rfl, h1, h2.trans hv (fun _ _ h => h) (fun b hb h => by omega), hv.heap h3 (fun h => h.1 (by simp)), h4, row_lv h5 hv (fun b hb h => h.1 (by simp [h6 b hb])), h6⟩
set_option linter.unusedVariables false in
set_option linter.unusedSimpArgs false in
set_option maxRecDepth 100000 in
set_option maxHeartbeats 4000000 in
theorem appendSeq_any (gf : Nat) (lb : Array Value) (ds : List D3) (wz w : World) (hds : ds.length ≤ 20000) (eg : ∀ args w, (callFunc gf args).run Tryz.prog w = .ok (.enter gf args) w) (hE : Ext wz w)
    (hsq : ∀ (base m m' : Nat) (w' : World), Ext wz w' → base ≤ w'.heap.size → SeqB base Fence.wide m m' Tryz.prog gf lb encD (fun _ _ => True) (fun _ => True) (fun _ => False) (fun b => b < wz.heap.size) ds w') :
    Calls Tryz.prog 114 #[.slice none 0 0, .func (.func gf) #[] lb] w fun e w' => (∃ v', e = .returned v' ∧ DepsOwn w.heap.size w' v' ds) ∧ Ext w w' := by
  obtain ⟨j0, hj0, hj1, hj2, hj3⟩ := info_parts infoDep
  have HSQ := Lib.hid hsq; have HDS := Lib.hid hds; have HEG := Lib.hid eg; have HE := Lib.hid hE
  clear hsq hds eg hE
  refine (callsIn_wide (n := 6)).1 ?_
  refine callsIn_of_wp_marks Tryz.func114 rfl trivial ?_ rfl
  simp only [Tryz.ntmps114, List.size_toArray, List.length_cons, List.length_nil, Nat.reduceAdd, Nat.reduceSub, Array.replicate_succ, Array.replicate_zero, List.push_toArray, List.append_toArray, List.nil_append, List.cons_append]
  have hdd : ∀ j : Nat, (Fence.wide.depth.isSome = true → 1 ≤ j) := fun j h => by cases h
  obtain ⟨RB, hRB⟩ : ∃ RB, w.heap.size = RB := ⟨_, rfl⟩
  obtain ⟨W1, hW1⟩ : ∃ W1, w.alloc (.cells #[.slice none 0 0] 42) = W1 := ⟨_, rfl⟩
  have hs1 : W1.heap.size = RB + 1 := by rw [← hW1, ← hRB]; simp
  have K0 : Hid (W1.heap[RB]? = some (.cells #[.slice none 0 0] 42 (0, 0))) := Lib.hid (by rw [← hW1, ← hRB]; exact World.alloc_heap_new w _)
  have E1 : Hid (Ext w W1) := Lib.hid (by rw [← hW1]; exact (Ext.refl w).alloc _)
  have HRB := Lib.hid hRB; have HS1 := Lib.hid hs1
  gi_wp2_with (fail)
  try rw [hW1]
  try rw [hRB]
  clear hW1 hRB
  have hs1 := HS1.out; have hrb := HRB.out; have hzw := HE.out.size_le
  refine wpIn_rangeFunc_baseA (w := W1) rfl (hdd _) (gf := gf) (lb := lb) rfl trivial HEG.out
    W1.heap.size (Nat.le_refl _) (HSQ.out W1.heap.size _ _ W1 (HE.out.trans E1.out) (Nat.le_refl _))
    (fun b h => by omega) (fun b h => h.elim) (fun x Wa Wb _ _ => trivial) (fun Wa Wb _ _ => trivial) (fun _ => rfl)
    (CoI W1 RB) (fun _ _ _ _ => False) (CoI.stable _ _) (fun cd s own X X' h _ => h) [RB]
    (fun b hb => ⟨by simp at hb; omega, fun h => by simp at hb; omega⟩) ⟨[], none, 0, 0, rfl, by simp, Lv.refl _ _, K0.out, rfl, World.ownsRow_nil _ _ _ _, by simp [Value.ownBlock]⟩
    (fun (d : D3) (a' : Act) (X : World) => ∃ g, X.heap[g]? = some (.cells #[.int .i64 (d.1 : Int), .int .i64 (d.2.1 : Int), .int .i64 d.2.2] 51 (0, 0)) ∧ a' = { tmps := #[.slice none 0 0, .func (.func gf) #[] lb, .pointer (some ⟨RB, 0, none⟩), undef, .slice none 0 0, .pointer (some ⟨g, 0, none⟩), .func (.func gf) #[] lb, .agg #[.int .i64 (d.1 : Int), .int .i64 (d.2.1 : Int), .int .i64 d.2.2], undef, undef, undef, undef, undef], defers := [] })
    ?ast ?assign ?body ?done ?stop
  case ast =>
    rintro x a' W W' l o ⟨g, h4, h5⟩ ho hv
    exact ⟨g, hv.heap h4 (fun e => by subst e; rw [h4] at ho; cases ho), h5⟩
  case assign =>
    intro l2 y X K hy hK
    obtain ⟨di, dk, dn⟩ := y
    dsimp only [encD]
    gi_wp2
    exact hK _ _ (Lv.alloc _ X _) ⟨X.heap.size, blk_at rfl, rfl⟩
  case body =>
    rintro l2 pre0 d ow a' X ⟨row, pr, nr, cr, rfl, hrow, hLV, hRB, hnr, hown, hblk⟩ hpx hrx hob ⟨g, hg, rfl⟩
    obtain ⟨di, dk, dn⟩ := d
    dsimp only at hg
    have HROW := Lib.hid hrow; have HLV := Lib.hid hLV; have HNR := Lib.hid hnr; have HOWN := Lib.hid hown; have HBLK := Lib.hid hblk; have HOB := Lib.hid hob; have HB := Lib.hid hRB
    obtain ⟨y0, yf⟩ := blk1 hRB
    obtain ⟨z0, z1, z2⟩ := blk3 hg
    have hn1 : nr ≤ 20000 := by
      have h1 := hpx.length_le
      have h2 := HDS.out
      rw [List.length_append, hnr] at h1
      omega
    have hlx : ∀ b ∈ RB :: row, b < X.heap.size := fun b hb => (HOB.out b hb).1
    have HLX := Lib.hid hlx
    have hx6 := hLV.size
    have HX6 := Lib.hid hx6
    clear hLV hRB hg hrow hnr hown hblk hob hpx hrx hlx
    gi_wp2_with (first | (gi_at_builtin; refine wpListIn_append_own_at _ rfl (.tmp 8) (.tmp 10) 42 rfl W1.heap.size 51 j0 (.agg #[.int .i64 0, .int .i64 0, .int .i64 0]) 3 24 underDep hj0 hj1 hj2 hj3 rfl (by decide) (.slice pr nr cr) nr _ rfl (HOWN.out.alloc (.cells #[.int .i64 (di : Int), .int .i64 (dk : Int), .int .i64 dn] 51)) ⟨X.heap.size, 0, none⟩ 1 1 [.int .i64 (di : Int), .int .i64 (dk : Int), .int .i64 dn] rfl rfl (tri_cells rfl) (by intro u hu; simp at hu; rcases hu with rfl | rfl | rfl <;> rfl) (by unfold maxLen; omega) (by omega) (by have h1 := HX6.out; simp; omega) ?_; intro v' w4 hown4 hgr4 hnil4 hat4; obtain ⟨gq, dq, rfl, hdq⟩ := own_form' hown4 (fun e => by have := (hnil4.1 e).2; omega); have HB4 := grownBy_blk hgr4 (blk_old (o := .cells #[.int .i64 (di : Int), .int .i64 (dk : Int), .int .i64 dn] 51) HB.out) (fun e => by have h1 := HROW.out _ (HBLK.out _ e.symm); have h2 := HS1.out; omega); have yf4 := (blk1 HB4).2; have y34 := (blk1 HB4).1) | fail)
    have hs6 := HS1.out; have hx6 := HX6.out
    obtain ⟨wA, hwA⟩ : ∃ wA, X.alloc (.cells #[.int .i64 (di : Int), .int .i64 (dk : Int), .int .i64 dn] 51) = wA := ⟨_, rfl⟩
    have hlvA : Lv (fun _ => False) X wA := by rw [← hwA]; exact Lv.alloc _ X _
    have hsA : wA.heap.size = X.heap.size + 1 := by rw [← hwA]; simp
    rw [hwA] at hgr4 hat4
    have hl34 : Lv (fun k => (Value.slice pr nr cr).ownBlock = some k) wA w4 := Lv.grown hgr4 (fun r e _ => e)
    have hX4 : Lv (fun k => k ∈ row) X w4 := hlvA.trans hl34 (fun _ _ h => h.elim) (fun b _ h => HBLK.out b h)
    have GQ : gq ∈ row ∨ X.heap.size ≤ gq := by
      rcases hat4 with h | h
      · exact .inl (HBLK.out gq h.symm)
      · simp only [Value.ownBlock, Option.some.injEq] at h; exact .inr (by omega)
    have hgl := (hown4.lt gq rfl).2
    have hgW : W1.heap.size ≤ gq := by
      rcases GQ with h | h
      · exact HROW.out gq h
      · omega
    have hset := lv_set w4 RB 0 (.slice (some ⟨gq, 0, none⟩) (nr + 1) dq)
    have hL5 : Lv (fun k => k ∈ RB :: row) X (w4.setCell ⟨RB, 0, none⟩ (.slice (some ⟨gq, 0, none⟩) (nr + 1) dq)) := hX4.trans hset (fun b _ h => by simp [h]) (fun b _ h => by simp [h])
    have hs45 := hX4.size
    refine ⟨RB :: (row ++ [gq]), ⟨hL5, fun b hb => ?_⟩, row ++ [gq], some ⟨gq, 0, none⟩, nr + 1, dq, rfl, fun b hb => ?_, ?_, blk1_set HB4, by simp [HNR.out], ?_, fun b hb => ?_⟩
    · simp only [List.mem_cons, List.mem_append, List.not_mem_nil, or_false] at hb
      have hlx := HLX.out
      simp only [World.size_setCell, List.mem_cons] at hlx ⊢
      rcases hb with hb | hb | hb
      · exact ⟨.inl (.inl hb), by have := hlx b (.inl hb); omega⟩
      · exact ⟨.inl (.inr hb), by have := hlx b (.inr hb); omega⟩
      · subst hb
        rcases GQ with h | h
        · exact ⟨.inl (.inr h), hgl⟩
        · exact ⟨.inr h, hgl⟩
    · rcases List.mem_append.1 hb with h | h
      · exact HROW.out b h
      · simp at h; omega
    · exact (HLV.out.trans hX4 (E := fun k => k = RB) (fun _ _ h => h) (fun b hb h => by have := HROW.out b h; omega)).trans hset (fun _ _ h => h) (fun _ _ h => h)
    · rw [flatD_snoc]
      exact row_lv hown4 hset (fun b hb h => by simp [Value.ownBlock] at hb; omega)
    · simp [Value.ownBlock] at hb; subst hb; simp
  case done =>
    rintro E ow X hE6 hEn ⟨row, pr, nr, cr, rfl, hrow, hLV, hRB, hnr, hown, hblk⟩ hob hv6 hz hdf
    have EX := Lib.hid (hLV.ext0 E1.out (fun b hb h => by omega))
    have HROW := Lib.hid hrow; have HNR := Lib.hid hnr; have HOWN := Lib.hid hown; have HBLK := Lib.hid hblk; have XE := Lib.hid hdf
    have HEE : Hid (RB < E) := Lib.hid (by omega)
    have HEN : Hid (E ∉ row) := Lib.hid (fun h => hEn (by simp [h]))
    obtain ⟨y0, -⟩ := blk1 hRB
    clear hrow hLV hRB hnr hown hblk hob hv6 hz hdf hE6 hEn
    gi_wp2_with (fail)
    refine leaves_marks2 [E] _ (fun E' h => by simp at h; subst h; exact XE.out) (by simp) (fun W' hW' => ?_)
    refine ⟨.slice pr nr cr, by simp [results, Tryz.results114, go_sem], ⟨_, rfl, ?_⟩, hW'.ext0 EX.out (fun b hb h => by have := HEE.out; have := HRB.out; simp at h; omega)⟩
    have h1 : W'.ownsRow W1.heap.size 51 3 (.slice pr nr cr) nr (flatD ds) := row_lv HOWN.out hW' (fun b hb h => by
      simp at h; subst h
      exact HEN.out (HBLK.out _ hb))
    unfold DepsOwn
    rw [HNR.out]
    exact ownsRow_weak h1 (by have := HS1.out; have := HRB.out; omega)
  case stop =>
    rintro E cd q ow X hE6 hEn hq h
    exact h.elim
set_option linter.unusedVariables false in
set_option maxRecDepth 100000 in
theorem collectDeps_any (gf : Nat) (lb : Array Value) (ds : List D3) (wz w : World) (hds : ds.length ≤ 20000) (eg : ∀ args w, (callFunc gf args).run Tryz.prog w = .ok (.enter gf args) w) (hE : Ext wz w)
    (hsq : ∀ (base m m' : Nat) (w' : World), Ext wz w' → base ≤ w'.heap.size → SeqB base Fence.wide m m' Tryz.prog gf lb encD (fun _ _ => True) (fun _ => True) (fun _ => False) (fun b => b < wz.heap.size) ds w') :
    Calls Tryz.prog 73 #[.func (.func gf) #[] lb] w fun e w' => (∃ v', e = .returned v' ∧ DepsOwn w.heap.size w' v' ds) ∧ Ext w w' := by
  have HSQ := Lib.hid hsq; have HEG := Lib.hid eg
  clear hsq eg
  go_enter Tryz.func73, Tryz.ntmps73
  go_wp2_with (fail)
  refine (appendSeq_any gf lb ds wz w hds HEG.out hE HSQ.out).mono ?_
  rintro e w1 ⟨⟨v, rfl, hv⟩, hE1⟩
  have HV := Lib.hid hv
  clear hv
  go_wp2
  go_ret
  exact ⟨⟨_, rfl, HV.out⟩, hE1⟩
theorem cell_set2 (W : World) {g g' : Nat} (o o' j : Nat) (u v : Value) (h : g' ≠ g) : ((W.setCell ⟨g, o, none⟩ u).setCell ⟨g, o', none⟩ v).cell? ⟨g', j, none⟩ = W.cell? ⟨g', j, none⟩ :=
  (World.cell?_of_block (heap_setCell_other _ ⟨g, o', none⟩ g' v h)).trans (World.cell?_of_block (heap_setCell_other W ⟨g, o, none⟩ g' u h))
theorem dl_len (K : Nat → Nat → Int) (M : Nat) (h : M ≤ 120) : (dpOf K (prTo M M)).length ≤ 20000 := by
  rw [dpOf_all]
  have h1 := depsTo_len K M M
  have h3 : M * M ≤ 120 * 120 := Nat.mul_le_mul h h
  omega
set_option linter.unusedVariables false in
set_option maxRecDepth 100000 in
set_option maxHeartbeats 2000000 in
theorem depsOf_any (B : Nat) (es : List Ev) (mo : Option Nat) (T : Int) (q1 q2 : Option Addr) (n1 c1 M c2 : Nat) (w : World) (hM : es.length = M) (hM120 : M ≤ 120) (hev : EvsOwn B w (.slice q2 M c2) es) :
    Calls Tryz.prog 73 #[.func (.func 115) #[] #[.pointer (some ⟨w.heap.size, 0, none⟩)]] (w.alloc (.cells #[.map mo, .int .i64 T, .slice q1 n1 c1, .slice q2 M c2] 88)) fun e w' =>
      (∃ v', e = .returned v' ∧ DepsOwn w.heap.size w' v' (dpOf (kEv es) (prTo M M))) ∧ Ext w w' := by
  obtain ⟨wz, hwz⟩ : ∃ wz, w.alloc (.cells #[.map mo, .int .i64 T, .slice q1 n1 c1, .slice q2 M c2] 88) = wz := ⟨_, rfl⟩
  have hEz : Ext w wz := by rw [← hwz]; exact (Ext.refl w).alloc _
  have hbz : wz.heap[w.heap.size]? = some (.cells #[.map mo, .int .i64 T, .slice q1 n1 c1, .slice q2 M c2] 88 (0, 0)) := by rw [← hwz]; exact World.alloc_heap_new w _
  have hevz := hev.ext hEz
  rw [hwz]
  refine (collectDeps_any 115 #[.pointer (some ⟨w.heap.size, 0, none⟩)] (dpOf (kEv es) (prTo M M)) wz wz (dl_len _ _ hM120) (enters_of Tryz.func115 (by kernel_rfl) rfl) (Ext.refl wz)
    (fun base m m' w' hE' hb' => dependences_seqB base m m' w.heap.size B es mo T q1 q2 n1 c1 M c2 wz w' hM hM120 hevz hbz hE' hb')).mono ?_
  rintro e w1 ⟨⟨v, rfl, hv⟩, hE1⟩
  exact ⟨⟨_, rfl, hv.weak hEz.size_le⟩, hEz.trans hE1⟩
set_option linter.unusedVariables false in
set_option linter.unusedSimpArgs false in
set_option maxRecDepth 100000 in
set_option maxHeartbeats 2000000 in
theorem graph_any (B : Nat) (es : List Ev) (mo : Option Nat) (T : Int) (q1 q2 : Option Addr) (n1 c1 M c2 : Nat) (w : World) (hM : es.length = M) (hM120 : M ≤ 120) (hev : EvsOwn B w (.slice q2 M c2) es) :
    Calls Tryz.prog 77 #[.agg #[.map mo, .int .i64 T, .slice q1 n1 c1, .slice q2 M c2]] w fun e w' =>
      (∃ v', e = .returned (.agg #[.int .i64 (M : Int), v']) ∧ DepsOwn w.heap.size w' v' (dpOf (kEv es) (prTo M M))) ∧ Ext w w' := by
  have HEV := Lib.hid hev; have HM := Lib.hid hM
  clear hev hM
  go_enter Tryz.func77, Tryz.ntmps77
  go_wp2_with (fail)
  obtain ⟨W1, hW1⟩ : ∃ W1, ((w.alloc (.cells #[.map mo, .int .i64 T, .slice q1 n1 c1, .slice q2 M c2] 88)).alloc (.cells #[.int .i64 0, .slice none 0 0] 120)) = W1 := ⟨_, rfl⟩
  have E1 : Hid (Ext w W1) := Lib.hid (by rw [← hW1]; exact ((Ext.refl w).alloc _).alloc _)
  have B1 := Lib.hid (show W1.heap[w.heap.size]? = some (.cells #[.map mo, .int .i64 T, .slice q1 n1 c1, .slice q2 M c2] 88 (0, 0)) by rw [← hW1]; exact blk_old (blk_at rfl))
  have B2 := Lib.hid (show W1.heap[w.heap.size + 1]? = some (.cells #[.int .i64 0, .slice none 0 0] 120 (0, 0)) by rw [← hW1]; exact blk_at (by simp))
  try rw [hW1]
  clear hW1
  have HEV1 := Lib.hid (HEV.out.ext E1.out)
  have HCOL : Hid (Calls Tryz.prog 73 #[.func (.func 115) #[] #[.pointer (some ⟨W1.heap.size, 0, none⟩)]] (W1.alloc (.cells #[.map mo, .int .i64 T, .slice q1 n1 c1, .slice q2 M c2] 88)).drew fun e w' =>
      (∃ v', e = .returned v' ∧ DepsOwn W1.heap.size w' v' (dpOf (kEv es) (prTo M M))) ∧ Ext W1.drew w') := Lib.hid (depsOf_any B es mo T q1 q2 n1 c1 M c2 W1.drew HM.out hM120 (HEV1.out.ext (Ext.refl W1).drew))
  obtain ⟨p0, p1, p2, p3, -⟩ := blk4f B1.out
  go_region_held3 (fun W => W.cell? ⟨w.heap.size, 0, none⟩ = some (.map mo) ∧ W.cell? ⟨w.heap.size, 1, none⟩ = some (.int .i64 T) ∧ W.cell? ⟨w.heap.size, 2, none⟩ = some (.slice q1 n1 c1) ∧ W.cell? ⟨w.heap.size, 3, none⟩ = some (.slice q2 M c2))
    (first | exact ⟨p0, p1, p2, p3⟩ | exact ⟨g3.keep p0, g3.keep p1, g3.keep p2, g3.keep p3⟩ | exact ⟨g4.keep p0, g4.keep p1, g4.keep p2, g4.keep p3⟩ | exact ⟨(cell_set2 w4 _ _ _ _ _ (by omega)).trans (g4.keep p0), (cell_set2 w4 _ _ _ _ _ (by omega)).trans (g4.keep p1), (cell_set2 w4 _ _ _ _ _ (by omega)).trans (g4.keep p2), (cell_set2 w4 _ _ _ _ _ (by omega)).trans (g4.keep p3)⟩ | fail)
    (first | (go_at_call 74; (with_reducible refine (dependences_call mo T q1 q2 n1 c1 M c2 W1.drew).mono ?_); rintro e w3 ⟨rfl, rfl⟩; have g3 : Ext W1 (W1.drew.alloc (.cells #[.map mo, .int .i64 T, .slice q1 n1 c1, .slice q2 M c2] 88)) := (Ext.refl W1).drew.alloc _) | (go_at_call 73; (with_reducible refine HCOL.out.mono ?_); rintro e w4 ⟨⟨v4, rfl, hd4⟩, hE4⟩; obtain ⟨qd, cd, rfl⟩ := hd4.form; have g4 := (Ext.refl W1).drew.trans hE4; obtain ⟨c0, c1x, cf0, cf1⟩ := blk2 (g4.blk B2.out)) | fail)
  have E4 := Lib.hid (E1.out.trans g4); have HD4 := Lib.hid hd4; have C4 := Lib.hid (g4.blk B2.out)
  have S1 := Lib.hid E1.out.size_le
  clear g3 g4 hd4 p0 p1 p2 p3 c0 c1x cf0 cf1
  go_wp2
  have hb5 := blk2_set (c := .int .i64 (M : Int)) (d := .slice qd (dpOf (kEv es) (prTo M M)).length cd) C4.out
  obtain ⟨w5, hw5⟩ : ∃ w5, ((w4.setCell ⟨w.heap.size + 1, 0, none⟩ (.int .i64 (M : Int))).setCell ⟨w.heap.size + 1, 1, none⟩ (.slice qd (dpOf (kEv es) (prTo M M)).length cd)) = w5 := ⟨_, rfl⟩
  have E5 : Ext w w5 := by rw [← hw5]; exact (E4.out.setCell (p := ⟨w.heap.size + 1, 0, none⟩) (Nat.le_succ _) _).setCell (p := ⟨w.heap.size + 1, 1, none⟩) (Nat.le_succ _) _
  have D5 : DepsOwn W1.heap.size w5 (.slice qd (dpOf (kEv es) (prTo M M)).length cd) (dpOf (kEv es) (prTo M M)) := by
    have h1 := lt_of_block B2.out
    rw [← hw5]; exact (HD4.out.setOld (p := ⟨w.heap.size + 1, 0, none⟩) h1 _).setOld (p := ⟨w.heap.size + 1, 1, none⟩) h1 _
  rw [hw5] at hb5 ⊢
  obtain ⟨r0, r1, -, -⟩ := blk2 hb5
  exact bodyPost_ret (v := .agg #[.int .i64 (M : Int), .slice qd (dpOf (kEv es) (prTo M M)).length cd]) (by simp [results, Tryz.results77, go_sem, r0, r1]) rfl ⟨⟨_, rfl, D5.weak S1.out⟩, E5⟩
end Go.Proofs.YtbcjllanigmioaaGreat
namespace Go.Proofs.YtbcjllanigmioaaGreat
open Go.RowKit Go.Maps
theorem evs_uses (ars : List Arr) (ps : List Pt) : kEv (evsOf ars ps) = kOf (usesM ars ps) := by rw [usesM_ev]; rfl
theorem dl_deps {ars : List Arr} {ps : List Pt} (hb : progB ars ps = true) : dpOf (kEv (evsOf ars ps)) (prTo (cntB ars ps) (cntB ars ps)) = depsB ars ps := by
  rw [dpOf_all, evs_uses]
  unfold cntB depsB
  rw [if_pos hb, if_pos hb]
theorem evs_cnt {ars : List Arr} {ps : List Pt} (hb : progB ars ps = true) : (evsOf ars ps).length = cntB ars ps := by
  unfold cntB
  rw [if_pos hb]
  simp [evsOf]
set_option linter.unusedVariables false in
set_option maxRecDepth 100000 in
set_option maxHeartbeats 2000000 in
theorem graphOf_any (v : Value) (ars : List Arr) (ps : List Pt) (w : World) (hp : PrR w v ars ps) :
    Calls Tryz.prog 80 #[v] w fun e w' => (∃ v', e = .returned (.agg #[.int .i64 (cntB ars ps : Int), v']) ∧ DepsOwn w.heap.size w' v' (depsB ars ps)) ∧ Ext w w' := by
  obtain ⟨qa, ca, qp, cp, rfl, -, -, ha, hps⟩ := hp.parts
  have HA := Lib.hid ha; have HPS := Lib.hid hps
  clear hp ha hps
  go_enter Tryz.func80, Tryz.ntmps80
  go_wp2_with (fail)
  obtain ⟨W1, hW1⟩ : ∃ W1, ((w.alloc (.cells #[.slice qa ars.length ca, .slice qp ps.length cp] 32)).alloc (.cells #[.int .i64 0, .slice none 0 0] 120)) = W1 := ⟨_, rfl⟩
  have E1 : Hid (Ext w W1) := Lib.hid (by rw [← hW1]; exact ((Ext.refl w).alloc _).alloc _)
  have C1 := Lib.hid (show W1.heap[w.heap.size + 1]? = some (.cells #[.int .i64 0, .slice none 0 0] 120 (0, 0)) by rw [← hW1]; exact blk_at (by simp))
  try rw [hW1]
  clear hW1
  refine (programOf_any qa qp _ ca _ cp ars ps _ rfl rfl (HA.out.ext E1.out) (HPS.out.ext E1.out)).mono ?_
  rintro e w2 ⟨⟨v, rfl, h0, h1⟩, hE⟩
  have HE := Lib.hid (E1.out.trans hE); have C2 := Lib.hid (hE.blk C1.out)
  clear hE
  obtain ⟨B0, hB0⟩ : ∃ B0, W1.heap.size = B0 := ⟨_, rfl⟩
  rw [hB0] at h1
  have hform : ∃ mo T q1 n1 c1 q2 M c2, ∃ es : List Ev, v = .agg #[.map mo, .int .i64 T, .slice q1 n1 c1, .slice q2 M c2] ∧ es.length = M ∧ M ≤ 120 ∧ EvsOwn B0 w2 (.slice q2 M c2) es ∧ cntB ars ps = M ∧ dpOf (kEv es) (prTo M M) = depsB ars ps := by
    cases hb : progB ars ps with
    | false => exact ⟨_, _, _, _, _, _, _, _, [], h0 hb, rfl, by omega, ⟨[], World.ownsRow_nil _ _ _ _, fun i x h => by simp at h⟩, by unfold cntB; rw [hb]; rfl, by unfold depsB; rw [hb]; rfl⟩
    | true =>
      obtain ⟨Bm, D, q1, c1, q2, c2, rfl, -, -, -, -, he⟩ := h1 hb
      exact ⟨_, _, _, _, _, _, _, _, evsOf ars ps, rfl, rfl, by have := insM_120 hb; simpa [evsOf] using this, he, (evs_cnt hb).symm, by rw [evs_cnt hb]; exact dl_deps hb⟩
  obtain ⟨mo, T, q1, n1, c1, q2, M, c2, es, rfl, hM, hM120, hev, hcnt, hdl⟩ := hform
  have HM := Lib.hid hM; have HEV := Lib.hid hev; have HDL := Lib.hid hdl; have HCN := Lib.hid hcnt
  clear h0 h1 hM hev hdl hB0 hcnt
  have hHS := Lib.hid HE.out.size_le
  go_wp2_with (fail)
  obtain ⟨w3, hw3⟩ : ∃ w3, w2.alloc (.cells #[.map mo, .int .i64 T, .slice q1 n1 c1, .slice q2 M c2] 88) = w3 := ⟨_, rfl⟩
  have E23 : Ext w2 w3 := by rw [← hw3]; exact (Ext.refl w2).alloc _
  have E3 : Hid (Ext w w3) := Lib.hid (HE.out.trans E23)
  have C3 := Lib.hid (E23.blk C2.out)
  have HEV3 := Lib.hid (HEV.out.ext E23)
  try rw [hw3]
  clear hw3 E23
  refine (graph_any B0 es mo T q1 q2 n1 c1 M c2 w3 HM.out hM120 HEV3.out).mono ?_
  rintro e w4 ⟨⟨v4, rfl, hd⟩, hE4⟩
  rw [HDL.out] at hd
  have HD := Lib.hid hd; have E4 := Lib.hid (E3.out.trans hE4)
  have C4 := Lib.hid (hE4.blk C3.out)
  obtain ⟨p4, c4, rfl⟩ := HD.out.form
  obtain ⟨c0, c1', cf, cf1⟩ := blk2 C4.out
  clear hd hE4
  go_wp2
  have hb5 := blk2_set (c := .int .i64 (M : Int)) (d := .slice p4 (depsB ars ps).length c4) C4.out
  obtain ⟨w5, hw5⟩ : ∃ w5, ((w4.setCell ⟨w.heap.size + 1, 0, none⟩ (.int .i64 (M : Int))).setCell ⟨w.heap.size + 1, 1, none⟩ (.slice p4 (depsB ars ps).length c4)) = w5 := ⟨_, rfl⟩
  have E5 : Ext w w5 := by rw [← hw5]; exact (E4.out.setCell (p := ⟨w.heap.size + 1, 0, none⟩) (Nat.le_succ _) _).setCell (p := ⟨w.heap.size + 1, 1, none⟩) (Nat.le_succ _) _
  have D5 : DepsOwn w3.heap.size w5 (.slice p4 (depsB ars ps).length c4) (depsB ars ps) := by
    have h1 := lt_of_block C3.out
    rw [← hw5]; exact (HD.out.setOld (p := ⟨w.heap.size + 1, 0, none⟩) h1 _).setOld (p := ⟨w.heap.size + 1, 1, none⟩) h1 _
  rw [hw5] at hb5 ⊢
  obtain ⟨r0, r1, -, -⟩ := blk2 hb5
  exact bodyPost_ret (v := .agg #[.int .i64 (M : Int), .slice p4 (depsB ars ps).length c4]) (by simp [results, Tryz.results80, go_sem, r0, r1]) rfl ⟨⟨_, by rw [HCN.out], D5.weak E3.out.size_le⟩, E5⟩
set_option linter.unusedVariables false in
set_option linter.unusedSimpArgs false in
set_option maxRecDepth 100000 in
set_option maxHeartbeats 4000000 in
theorem levels_any (B : Nat) (M N c : Nat) (q : Option Addr) (ds : List D3) (w : World) (hd : DepsOwn B w (.slice q N c) ds) (hN : ds.length = N) (hN2 : N ≤ 14400) (hM : M ≤ 120) (hmem : ∀ d ∈ ds, d.1 < d.2.1 ∧ d.2.1 < M) :
    Calls Tryz.prog 81 #[.agg #[.int .i64 (M : Int), .slice q N c]] w fun e w' => (∃ v', e = .returned v' ∧ IntsOwn w.heap.size w' v' (lvF M ds)) ∧ Ext w w' := by
  have HD := Lib.hid hd; have HN := Lib.hid hN; have HMEM := Lib.hid hmem
  have hmk := make_intsZ M (by omega)
  have hMN : decide ((M : Int) < 0) = false := by simp
  clear hd hN hmem
  go_enter Tryz.func81, Tryz.ntmps81
  go_wp2
  obtain ⟨W1, hW1⟩ : ∃ W1, w.alloc (.cells #[.int .i64 (M : Int), .slice q N c] 120) = W1 := ⟨_, rfl⟩
  have E1 : Ext w W1 := by rw [← hW1]; exact (Ext.refl w).alloc _
  have hz1 : W1.heap.size = w.heap.size + 1 := by rw [← hW1]; simp
  obtain ⟨W2, hW2⟩ : ∃ W2, W1.alloc (.cells (Array.replicate M (Value.int .i64 0)) 3) = W2 := ⟨_, rfl⟩
  have E2 : Hid (Ext w W2) := Lib.hid (by rw [← hW2]; exact E1.alloc _)
  have L2 : Hid (IntsOwn w.heap.size W2 (.slice (some ⟨w.heap.size + 1, 0, none⟩) M M) (lvF M [])) := Lib.hid (by rw [← hW2, ← rep_ints]; have h := (made_own W1 M (by omega) (List.replicate M 0) (by simp)).weak E1.size_le; rw [hz1] at h; exact h)
  try rw [hW1]
  try rw [hW2]
  clear hW1 hW2 hmk E1 hz1
  go_loopw [12] (fun iv wr => ∃ k : Nat, k ≤ N ∧ iv = .int .i64 k ∧ IntsOwn w.heap.size wr (.slice (some ⟨w.heap.size + 1, 0, none⟩) M M) (lvF M (ds.take k)) ∧ Ext w wr) (fun iv _ => N - (intOf iv).toNat)
  case atStart => exact ⟨0, by omega, rfl, L2.out, E2.out⟩
  case round =>
    obtain ⟨k, hk, rfl, hl, hE⟩ := hrel
    clear L2
    have HL := Lib.hid hl; have HE := Lib.hid hE
    clear hl hE
    by_cases hlt : k < N
    · obtain ⟨d, hd⟩ := get_some (xs := ds) (k := k) (by rw [HN.out]; exact hlt)
      obtain ⟨hij, hjM⟩ := HMEM.out d (List.mem_of_getElem? hd)
      have hST := step_take M hd
      have hbd := lvF_bd M ds k (by rw [HN.out]; omega)
      obtain ⟨i, j, n⟩ := d
      dsimp only at hij hjM
      obtain ⟨a, ha⟩ := lv_get (M := M) (ds := ds.take k) (show i < M by omega)
      obtain ⟨b, hb⟩ := lv_get (M := M) (ds := ds.take k) hjM
      obtain ⟨a0, a1⟩ := hbd a (List.mem_of_getElem? ha)
      obtain ⟨b0, b1⟩ := hbd b (List.mem_of_getElem? hb)
      obtain ⟨o, rfl, -, hol, d0, d1, d2⟩ := (HD.out.ext HE.out).elem hd
      have HA := Lib.hid ha; have HBB := Lib.hid hb; have HST := Lib.hid hST
      have hkI : (k : Int) < (N : Int) := by omega
      have hiI : (i : Int) < (M : Int) := by omega
      have hjI : (j : Int) < (M : Int) := by omega
      dsimp only at d0 d1 d2
      clear hd ha hb hST hbd
      go_wp2_with (fail)
      obtain ⟨wx, hwx⟩ : ∃ wx, wr.alloc (.cells #[.int .i64 (i : Int), .int .i64 (j : Int), .int .i64 n] 51) = wx := ⟨_, rfl⟩
      have EX : Ext wr wx := by rw [← hwx]; exact (Ext.refl wr).alloc _
      have BX : wx.heap[wr.heap.size]? = some (.cells #[.int .i64 (i : Int), .int .i64 (j : Int), .int .i64 n] 51 (0, 0)) := by rw [← hwx]; exact blk_at rfl
      have HLx := Lib.hid (HL.out.ext EX); have HEx := Lib.hid (HE.out.trans EX)
      obtain ⟨e0, e1, e2⟩ := blk3 BX
      have ca := HLx.out.cellI HA.out; have cb := HLx.out.cellI HBB.out
      rw [hwx]
      clear hwx EX BX d0 d1 d2
      go_still_tail 16, (by kernel_rfl)
      change wpList _ _ _ _ _ wx.drew
      obtain ⟨wd, hwd⟩ : ∃ wd, wx.drew = wd := ⟨_, rfl⟩
      have HLd : Hid (IntsOwn w.heap.size wd (.slice (some ⟨w.heap.size + 1, 0, none⟩) M M) (lvF M (ds.take k))) := Lib.hid (by rw [← hwd]; exact HLx.out.ext (Ext.refl wx).drew)
      have HEd : Hid (Ext w wd) := Lib.hid (by rw [← hwd]; exact HEx.out.trans (Ext.refl wx).drew)
      rw [hwd]
      clear hwd e0 e1 e2 ca cb
      have hfz := HLd.out.frz j
      have cj := HLd.out.cellI HBB.out
      have hmx : (if b < a + 1 then a + 1 else b) = max b (a + 1) := by split <;> omega
      have HMX := Lib.hid hmx
      clear hmx
      have HL2' : Hid (IntsOwn w.heap.size (wd.setCell ⟨w.heap.size + 1, j, none⟩ (.int .i64 (if b < a + 1 then a + 1 else b))) (.slice (some ⟨w.heap.size + 1, 0, none⟩) M M) (lvF M (ds.take (k + 1)))) := Lib.hid (by rw [HST.out, lvStep_set HA.out HBB.out, ← HMX.out]; exact HLd.out.store (lvF_len _ _) j _)
      have HE2' := Lib.hid (HEd.out.setCell (p := ⟨w.heap.size + 1, j, none⟩) (Nat.le_succ _) (.int .i64 (if b < a + 1 then a + 1 else b)))
      go_wp2
      go_roundw
      case rel => exact ⟨k + 1, by omega, by go_num, by first | exact HL2'.out | (have h := HL2'.out; rw [HMX.out] at h; exact h), by first | exact HE2'.out | (have h := HE2'.out; rw [HMX.out] at h; exact h)⟩
      case measure => simp [intOf]; omega
    · obtain rfl : k = N := by omega
      have HR : Hid (IntsOwn w.heap.size wr (.slice (some ⟨w.heap.size + 1, 0, none⟩) M M) (lvF M ds)) := Lib.hid (by have h := HL.out; rwa [List.take_of_length_le (by rw [HN.out]; exact Nat.le_refl _)] at h)
      go_wp2
      go_ret
      exact ⟨⟨_, rfl, HR.out⟩, HE.out⟩
theorem maxL_lenF {x : Int} (hx : 0 ≤ x) (l : List Int) : maxL (x :: l) + 1 = lenF (x :: l) := by
  rw [← maxF_lenF hx]
  have e : (fun (m v : Int) => if m < v then v else m) = max := by
    funext m v
    split <;> omega
  show List.foldl _ x l + 1 = List.foldl max x l + 1
  rw [← e]
set_option linter.unusedVariables false in
set_option maxRecDepth 100000 in
set_option maxHeartbeats 1000000 in
theorem countLevels_any (p : Option Addr) (n c : Nat) (xs : List Int) (w : World) (hn : xs.length = n) (hb : ∀ x ∈ xs, 0 ≤ x ∧ x ≤ 119) (hs : IntsAt w (.slice p n c) xs) :
    Calls Tryz.prog 83 #[.slice p n c] w fun e w' => e = .returned (.int .i64 (lenF xs)) ∧ Ext w w' := by
  cases xs with
  | nil =>
    obtain rfl : n = 0 := by simpa using hn.symm
    clear hn hs hb
    go_enter Tryz.func83, Tryz.ntmps83
    go_wp2
    go_ret
    exact ⟨rfl, Ext.refl w⟩
  | cons x xs =>
    have hne : ((n : Int) == 0) = false := by simp at hn ⊢; omega
    have hmx := maxL_lenF (hb x (by simp)).1 xs
    have hbd := lenF_bd (l := x :: xs) (k := 119) (by omega) (fun y hy => (hb y hy).2)
    have HN := Lib.hid hn; have HS := Lib.hid hs
    obtain ⟨z, hz⟩ : ∃ z, maxL (x :: xs) = z := ⟨_, rfl⟩
    rw [hz] at hmx
    have HMX := Lib.hid hmx; have HZ := Lib.hid hz
    have hz1 : -1 ≤ z ∧ z ≤ 119 := by omega
    clear hn hs hb hmx hbd hz
    go_enter Tryz.func83, Tryz.ntmps83
    go_wp2_with (fail)
    refine (slicesMax_any _ (x :: xs) _ HS.out (by simp)).mono ?_
    rw [HZ.out]
    rintro e w1 ⟨rfl, rfl⟩
    go_wp2
    go_ret
    exact ⟨ret_int HMX.out, Ext.refl w⟩
end Go.Proofs.YtbcjllanigmioaaGreat
