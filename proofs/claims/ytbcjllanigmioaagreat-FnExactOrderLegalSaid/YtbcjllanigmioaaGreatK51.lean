/- The texts G48 G49, joined. No statement is proved here. -/
import Derived.Test.YtbcjllanigmioaaGreatK52
import Derived.Test.YtbcjllanigmioaaGreatK47
/- The program's OrderBroken and OrderLegal. No statement is proved here. -/
namespace Go.Proofs.YtbcjllanigmioaaGreat
open Go.RowKit Go.Maps
attribute [local go_sem] Oper.semAt_some

set_option linter.unusedVariables false in
set_option linter.unusedSimpArgs false in
set_option maxRecDepth 100000 in
set_option maxHeartbeats 2000000 in
/-- The iterator's maker: the places of an order. -/
theorem broken_call (M N c n co : Nat) (q p : Option Addr) (xs : List Int) (w : World) (hn : xs.length = n) (hnM : n = M) (hM : M ≤ 120) (hx : ∀ x ∈ xs, 0 ≤ x ∧ x < (M : Int)) (hs : IntsAt w (.slice p n co) xs) :
    Calls Tryz.prog 119 #[.agg #[.int .i64 (M : Int), .slice q N c], .slice p n co] w fun e w' =>
      e = .returned (.func (.func 154) #[] #[.pointer (some ⟨w.heap.size, 0, none⟩), .pointer (some ⟨w.heap.size + 1 + 1, 0, none⟩)]) ∧
      w'.heap[w.heap.size]? = some (.cells #[.int .i64 (M : Int), .slice q N c] 120 (0, 0)) ∧ w'.heap[w.heap.size + 1 + 1]? = some (.cells #[.slice (some ⟨w.heap.size + 1, 0, none⟩) M M] 27 (0, 0)) ∧
      IntsOwn w.heap.size w' (.slice (some ⟨w.heap.size + 1, 0, none⟩) M M) (plTo M xs M) ∧ Ext w w' ∧ w.heap.size + 3 ≤ w'.heap.size := by
  subst hnM
  obtain ⟨hm, hc⟩ := hs.cl
  have HN := Lib.hid hn; have HC := Lib.hid hc; have HX := Lib.hid hx
  have hmk := make_intsZ n (by omega)
  have hMN : decide ((n : Int) < 0) = false := by simp
  clear hn hc hs hx
  go_enter Tryz.func119, Tryz.ntmps119
  go_wp2
  obtain ⟨W1, hW1⟩ : ∃ W1, w.alloc (.cells #[.int .i64 (n : Int), .slice q N c] 120) = W1 := ⟨_, rfl⟩
  have E1 : Ext w W1 := by rw [← hW1]; exact (Ext.refl w).alloc _
  have B1 : W1.heap[w.heap.size]? = some (.cells #[.int .i64 (n : Int), .slice q N c] 120 (0, 0)) := by rw [← hW1]; exact blk_at rfl
  have hz1 : W1.heap.size = w.heap.size + 1 := by rw [← hW1]; simp
  obtain ⟨W2, hW2⟩ : ∃ W2, W1.alloc (.cells (Array.replicate n (Value.int .i64 0)) 3) = W2 := ⟨_, rfl⟩
  have E2 : Ext W1 W2 := by rw [← hW2]; exact (Ext.refl W1).alloc _
  have hz2 : W2.heap.size = w.heap.size + 1 + 1 := by rw [← hW2]; simp [hz1]
  have L2 : IntsOwn w.heap.size W2 (.slice (some ⟨w.heap.size + 1, 0, none⟩) n n) (plTo n xs 0) := by rw [← hW2, ← rep_ints]; have h := (made_own W1 n (by omega) (List.replicate n 0) (by simp)).weak E1.size_le; rw [hz1] at h; exact h
  obtain ⟨W3, hW3⟩ : ∃ W3, W2.alloc (.cells #[.slice (some ⟨w.heap.size + 1, 0, none⟩) n n] 27) = W3 := ⟨_, rfl⟩
  have E3 : Ext W2 W3 := by rw [← hW3]; exact (Ext.refl W2).alloc _
  have HE3 : Hid (Ext w W3) := Lib.hid ((E1.trans E2).trans E3)
  have HB3 := Lib.hid ((E2.trans E3).blk B1)
  have HX3 : Hid (W3.heap[w.heap.size + 1 + 1]? = some (.cells #[.slice (some ⟨w.heap.size + 1, 0, none⟩) n n] 27 (0, 0))) := Lib.hid (by rw [← hW3, ← hz2]; exact blk_at rfl)
  have HL3 := Lib.hid (L2.ext E3)
  have HZ3 : Hid (w.heap.size + 3 ≤ W3.heap.size) := Lib.hid (by rw [← hW3]; simp [hz2])
  try rw [hW1]
  try rw [hW2]
  try rw [hW3]
  clear hW1 hW2 hW3 hmk E1 E2 E3 B1 L2 hz1 hz2
  go_loopw [13] (fun iv wr => ∃ k : Nat, k ≤ n ∧ iv = .int .i64 k ∧ IntsOwn w.heap.size wr (.slice (some ⟨w.heap.size + 1, 0, none⟩) n n) (plTo n xs k) ∧ wr.heap[w.heap.size]? = some (.cells #[.int .i64 (n : Int), .slice q N c] 120 (0, 0)) ∧ wr.heap[w.heap.size + 1 + 1]? = some (.cells #[.slice (some ⟨w.heap.size + 1, 0, none⟩) n n] 27 (0, 0)) ∧ w.heap.size + 3 ≤ wr.heap.size ∧ Ext w wr) (fun iv _ => n - (intOf iv).toNat)
  case atStart => exact ⟨0, by omega, rfl, HL3.out, HB3.out, HX3.out, HZ3.out, HE3.out⟩
  case round =>
    obtain ⟨k, hk, rfl, hl, hb, hx3, hz, hE⟩ := hrel
    clear HL3 HB3 HX3 HZ3 HE3
    have HL := Lib.hid hl; have HE := Lib.hid hE; have HB := Lib.hid hb; have HX3 := Lib.hid hx3; have HZ := Lib.hid hz
    obtain ⟨px, -⟩ := blk1 hx3
    clear hl hE hb hx3 hz
    by_cases hlt : k < n
    · obtain ⟨x, hxx⟩ := get_some (xs := xs) (k := k) (by rw [HN.out]; exact hlt)
      obtain ⟨x0, x1⟩ := HX.out x (List.mem_of_getElem? hxx)
      obtain ⟨j, rfl⟩ : ∃ j : Nat, x = j := ⟨x.toNat, by omega⟩
      obtain ⟨b, off, rfl, hcell⟩ := HC.out k _ hxx
      have hcl := HE.out.keep hcell
      obtain ⟨a, ha⟩ := pl_get (M := n) (o := xs) (k := k) (show j < n by omega)
      have hca := HL.out.cellI ha
      have hfz := HL.out.frz j
      have hkI : (k : Int) < (n : Int) := by omega
      have HN1 : Hid (plTo n xs (k + 1) = (plTo n xs k).set j (k : Int)) := Lib.hid (plTo_next n hxx)
      have HL2 : Hid (IntsOwn w.heap.size (wr.setCell ⟨w.heap.size + 1, j, none⟩ (.int .i64 (k : Int))) (.slice (some ⟨w.heap.size + 1, 0, none⟩) n n) (plTo n xs (k + 1))) := Lib.hid (by rw [HN1.out]; exact HL.out.store (plTo_len _ _ _) j _)
      have HE2 := Lib.hid (HE.out.setCell (p := ⟨w.heap.size + 1, j, none⟩) (Nat.le_succ _) (.int .i64 (k : Int)))
      have hlv := lv_set wr (w.heap.size + 1) j (.int .i64 (k : Int))
      have HB2 := Lib.hid (hlv.heap HB.out (by omega)); have HX2 := Lib.hid (hlv.heap HX3.out (by omega))
      have HZ2 : Hid (w.heap.size + 3 ≤ (wr.setCell ⟨w.heap.size + 1, j, none⟩ (.int .i64 (k : Int))).heap.size) := Lib.hid (by simpa using HZ.out)
      clear hxx hcell ha hlv
      go_wp2
      go_roundw
      case rel => exact ⟨k + 1, by omega, by go_num, HL2.out, HB2.out, HX2.out, HZ2.out, HE2.out⟩
      case measure => simp [intOf]; omega
    · obtain rfl : k = n := by omega
      go_wp2
      go_ret
      exact ⟨rfl, HB.out, HX3.out, HL.out, HE.out, HZ.out⟩

theorem head_filter {p : D3 → Bool} {ds : List D3} {d : D3} {q : List D3} (h : q <+: ds.filter p) (hq : q = [d]) : ds.find? p = some d := by
  subst hq
  obtain ⟨t, ht⟩ := h
  have : (ds.filter p).head? = ds.find? p := by rw [List.head?_filter]
  rw [← this, ← ht]; rfl
theorem nil_filter {p : D3 → Bool} {ds : List D3} (h : ds.filter p = []) : ds.find? p = none := by
  have : (ds.filter p).head? = ds.find? p := by rw [List.head?_filter]
  rw [← this, h]; rfl

set_option linter.unusedVariables false in
set_option linter.unusedSimpArgs false in
set_option maxRecDepth 100000 in
set_option maxHeartbeats 4000000 in
theorem firstBroken_any (B M N c n co : Nat) (q p : Option Addr) (ds : List D3) (xs : List Int) (w : World) (hd : DepsOwn B w (.slice q N c) ds) (hN : ds.length = N) (hN2 : N ≤ 14400) (hn : xs.length = n) (hnM : n = M) (hM : M ≤ 120) (hmem : ∀ d ∈ ds, d.1 < d.2.1 ∧ d.2.1 < M) (hx : ∀ x ∈ xs, 0 ≤ x ∧ x < (M : Int)) (hs : IntsAt w (.slice p n co) xs) :
    Calls Tryz.prog 78 #[.agg #[.int .i64 (M : Int), .slice q N c], .slice p n co] w fun e w' => e = .returned (.tuple #[encO (brk1 (plTo M xs M) ds), .bool (brk1 (plTo M xs M) ds).isSome]) ∧ Ext w w' := by
  have HD := Lib.hid hd; have HN := Lib.hid hN; have HNN := Lib.hid hn; have HMEM := Lib.hid hmem; have HX := Lib.hid hx; have HS := Lib.hid hs; have HNM := Lib.hid hnM
  obtain ⟨bo, hbo⟩ : ∃ bo, brk1 (plTo M xs M) ds = bo := ⟨_, rfl⟩
  rw [hbo]
  have HBO := Lib.hid hbo
  have HDL : Hid (∀ b, (Value.slice q N c).ownBlock = some b → b < w.heap.size) := Lib.hid (fun b hb => (World.ownsRow.lt hd b hb).2)
  clear hd hN hn hmem hx hs hbo hnM
  refine (callsIn_wide (n := 6)).1 ?_
  refine callsIn_of_wp_marks Tryz.func78 rfl trivial ?_ rfl
  simp only [Tryz.ntmps78, List.size_toArray, List.length_cons, List.length_nil, Nat.reduceAdd, Nat.reduceSub, Array.replicate_succ, Array.replicate_zero, List.push_toArray, List.append_toArray, List.nil_append, List.cons_append]
  have hdd : ∀ j : Nat, (Fence.wide.depth.isSome = true → 1 ≤ j) := fun j h => by cases h
  obtain ⟨g0, hg0⟩ : ∃ g0, w.heap.size = g0 := ⟨_, rfl⟩
  obtain ⟨W3, hW3⟩ : ∃ W3, (((w.alloc (.cells #[.int .i64 (M : Int), .slice q N c] 120)).alloc (.cells #[.int .i64 0, .int .i64 0, .int .i64 0] 51)).alloc (.cells #[.bool false] 4)) = W3 := ⟨_, rfl⟩
  have hs3 : W3.heap.size = g0 + 3 := by rw [← hW3, ← hg0]; simp
  have E3 : Hid (Ext w W3) := Lib.hid (by rw [← hW3]; exact (((Ext.refl w).alloc _).alloc _).alloc _)
  have K0 : W3.heap[g0]? = some (.cells #[.int .i64 (M : Int), .slice q N c] 120 (0, 0)) := by rw [← hW3, ← hg0]; exact blk_old (blk_old (blk_at rfl))
  have K1 : Hid (W3.heap[g0 + 1]? = some (.cells #[.int .i64 0, .int .i64 0, .int .i64 0] 51 (0, 0))) := Lib.hid (by rw [← hW3, ← hg0]; exact blk_old (blk_at (by simp)))
  have K2 : Hid (W3.heap[g0 + 1 + 1]? = some (.cells #[.bool false] 4 (0, 0))) := Lib.hid (by rw [← hW3, ← hg0]; exact blk_at (by simp))
  have HG0 := Lib.hid hg0; have HS3 := Lib.hid hs3
  obtain ⟨kc0, kc1, -, -⟩ := blk2 K0
  gi_wp2_with (fail)
  try rw [hW3]
  try rw [hg0]
  refine ⟨trivial, ?_⟩
  refine (callsIn_wide.2 (broken_call M N c n co q p xs W3 HNN.out HNM.out hM HX.out (HS.out.ext E3.out))).mono ?_
  rintro e wz ⟨rfl, hG, hPX, hPL, hEz, hzz⟩
  rw [hs3] at hG hPX hPL hzz ⊢
  have HPRE : Hid (BrkF B (g0 + 3) M N c M q (g0 + 3) (g0 + 3 + 1 + 1) (g0 + 3 + 1) ds (plTo M xs M) wz) := Lib.hid ⟨HD.out.ext (E3.out.trans hEz), hPL, hG, hPX⟩
  have HBZ : Hid (BrkZ N c q (g0 + 3) (g0 + 3 + 1 + 1) (g0 + 3 + 1) (fun b => b < wz.heap.size ∧ b ≠ g0 + 1 ∧ b ≠ g0 + 1 + 1)) := Lib.hid ⟨fun b hb => by have := HDL.out b hb; have := HG0.out; exact ⟨by omega, by omega, by omega⟩, ⟨by omega, by omega, by omega⟩, ⟨by omega, by omega, by omega⟩, ⟨by omega, by omega, by omega⟩⟩
  have Z1 := Lib.hid (hEz.blk K1.out); have Z2 := Lib.hid (hEz.blk K2.out); have EZ := Lib.hid (E3.out.trans hEz); have HZZ := Lib.hid hzz
  clear hG hPX hPL hEz hW3 hg0 K0 hs3 hzz K1 K2 kc0 kc1
  gi_wp2_with (fail)
  have hzz := HZZ.out; have hg0 := HG0.out
  refine wpIn_rangeFunc_baseA (w := wz) rfl (hdd _) (gf := 154) (lb := #[.pointer (some ⟨g0 + 3, 0, none⟩), .pointer (some ⟨g0 + 3 + 1 + 1, 0, none⟩)]) rfl trivial (enters_of Tryz.func154 (by kernel_rfl) rfl)
    wz.heap.size (Nat.le_refl _) (broken_seqB wz.heap.size _ _ (g0 + 3) (g0 + 3 + 1 + 1) (g0 + 3 + 1) B (g0 + 3) M N c M q ds (plTo M xs M) (fun b => b < wz.heap.size ∧ b ≠ g0 + 1 ∧ b ≠ g0 + 1 + 1) wz HN.out hN2 hM HMEM.out (plTo_len _ _ _) HPRE.out HBZ.out (fun b h => h.1) (Nat.le_refl _))
    (fun b h => h.1) (fun b h => h.elim) (fun x Wa Wb _ _ => trivial) (fun Wa Wb _ _ => trivial) (fun _ => rfl)
    (fun s own X => s = [] ∧ own = [g0 + 1, g0 + 1 + 1] ∧ Lv (fun k => k = g0 + 1 ∨ k = g0 + 1 + 1) wz X ∧ X.heap[g0 + 1]? = some (.cells #[.int .i64 0, .int .i64 0, .int .i64 0] 51 (0, 0)) ∧ X.heap[g0 + 1 + 1]? = some (.cells #[.bool false] 4 (0, 0)))
    (fun cd s own X => cd = .ret ∧ own = [g0 + 1, g0 + 1 + 1] ∧ Lv (fun k => k = g0 + 1 ∨ k = g0 + 1 + 1) wz X ∧ ∃ d : D3, s = [d] ∧ X.heap[g0 + 1]? = some (.cells #[.int .i64 (d.1 : Int), .int .i64 (d.2.1 : Int), .int .i64 d.2.2] 51 (0, 0)) ∧ X.heap[g0 + 1 + 1]? = some (.cells #[.bool true] 4 (0, 0)))
    (by
      rintro s o X X' ⟨a1, rfl, a2, a3, a4⟩ hv
      exact ⟨a1, rfl, a2.trans hv (fun _ _ h => h) (fun b hb h => by omega), hv.heap a3 (fun h => h.1 (by simp)), hv.heap a4 (fun h => h.1 (by simp))⟩)
    (by
      rintro cd s o X X' ⟨a1, rfl, a2, d, a3, a4, a5⟩ hv
      exact ⟨a1, rfl, a2.trans hv (fun _ _ h => h) (fun b hb h => by omega), d, a3, hv.heap a4 (fun h => h.1 (by simp)), hv.heap a5 (fun h => h.1 (by simp))⟩)
    [g0 + 1, g0 + 1 + 1] (fun b hb => by simp at hb; rcases hb with rfl | rfl <;> exact ⟨by omega, fun h => by omega⟩) ⟨rfl, rfl, Lv.refl _ _, Z1.out, Z2.out⟩
    (fun (d : D3) (a' : Act) (X : World) => ∃ g, X.heap[g]? = some (.cells #[.int .i64 (d.1 : Int), .int .i64 (d.2.1 : Int), .int .i64 d.2.2] 51 (0, 0)) ∧ a' = { tmps := #[.agg #[.int .i64 (M : Int), .slice q N c], .slice p n co, .pointer (some ⟨g0, 0, none⟩), undef, .pointer (some ⟨g0 + 1, 0, none⟩), .pointer (some ⟨g0 + 1 + 1, 0, none⟩), .pointer (some ⟨g, 0, none⟩), .agg #[.int .i64 (M : Int), .slice q N c], .slice p n co, .func (.func 154) #[] #[.pointer (some ⟨g0 + 3, 0, none⟩), .pointer (some ⟨g0 + 3 + 1 + 1, 0, none⟩)], .agg #[.int .i64 (d.1 : Int), .int .i64 (d.2.1 : Int), .int .i64 d.2.2], undef, undef], defers := [] })
    ?ast ?assign ?body ?done ?stop
  case ast =>
    rintro x a' W W' l o ⟨g, h4, h5⟩ ho hv
    exact ⟨g, hv.heap h4 (fun e => by subst e; rw [h4] at ho; cases ho), h5⟩
  case assign =>
    intro l2 y X K hy hK
    obtain ⟨di, dk, dn⟩ := y
    dsimp only [encD]
    gi_wp2
    exact hK _ _ (Lv.alloc _ X _) ⟨X.heap.size, blk_at rfl, rfl⟩
  case body =>
    rintro l2 pre0 d ow a' X ⟨rfl, rfl, hLV, hR1, hR2⟩ hpx hrx hob ⟨g, hg, rfl⟩
    obtain ⟨di, dk, dn⟩ := d
    dsimp only at hg
    obtain ⟨z0, z1, z2⟩ := blk3 hg
    obtain ⟨c0, c1', c2'⟩ := blk3 hR1
    have f0 := blk3f hR1 0; have f1 := blk3f hR1 1; have f2 := blk3f hR1 2
    obtain ⟨b0, bf⟩ := blk1 hR2
    have HLV := Lib.hid hLV; have HR1 := Lib.hid hR1; have HR2 := Lib.hid hR2; have HOB := Lib.hid hob
    clear hLV hR1 hR2 hob hg hpx hrx
    gi_wp2
    have hz := blk3_set (a' := .int .i64 (di : Int)) (b' := .int .i64 (dk : Int)) (c' := .int .i64 dn) HR1.out
    have hv : Lv (fun k => k = g0 + 1) X (((X.setCell ⟨g0 + 1, 0, none⟩ (.int .i64 (di : Int))).setCell ⟨g0 + 1, 1, none⟩ (.int .i64 (dk : Int))).setCell ⟨g0 + 1, 2, none⟩ (.int .i64 dn)) :=
      ((lv_set X (g0 + 1) 0 _).trans (lv_set _ (g0 + 1) 1 _) (fun _ _ h => h) (fun _ _ h => h)).trans (lv_set _ (g0 + 1) 2 _) (fun _ _ h => h) (fun _ _ h => h)
    generalize (((X.setCell ⟨g0 + 1, 0, none⟩ (.int .i64 (di : Int))).setCell ⟨g0 + 1, 1, none⟩ (.int .i64 (dk : Int))).setCell ⟨g0 + 1, 2, none⟩ (.int .i64 dn)) = w4 at *
    have hv2 := hv.trans (lv_set w4 (g0 + 1 + 1) 0 (.bool true)) (E := fun k => k = g0 + 1 ∨ k = g0 + 1 + 1) (fun _ _ h => .inl h) (fun _ _ h => .inr h)
    exact ⟨_, Grew.same (hv2.mono (fun b _ h => by rcases h with rfl | rfl <;> simp)) (fun b hb => (HOB.out b hb).1), rfl, rfl, HLV.out.trans hv2 (fun _ _ h => h) (fun _ _ h => h), (di, dk, dn), by simp, blk_off hz (by omega) _, blk1_set (hv.heap HR2.out (by omega))⟩
  case done =>
    rintro E ow X hE6 hEn ⟨hnil, rfl, hLV, hR1, hR2⟩ hob hv6 hz hdf
    have HR : Hid (bo = none) := Lib.hid (by rw [← HBO.out]; exact nil_filter hnil)
    obtain ⟨c0, c1', c2'⟩ := blk3 hR1
    have f0 := blk3f hR1 0; have f1 := blk3f hR1 1; have f2 := blk3f hR1 2
    obtain ⟨b0, bf⟩ := blk1 hR2
    have EX := Lib.hid (hLV.ext0 EZ.out (fun b hb h => by omega))
    have HR1 := Lib.hid hR1; have HR2 := Lib.hid hR2; have XE := Lib.hid hdf
    have HEE : Hid (g0 + 1 + 1 < E) := Lib.hid (by omega)
    clear hLV hR1 hR2 hob hv6 hz hdf hnil hE6 hEn
    gi_wp2
    have hz := blk3_set (a' := .int .i64 0) (b' := .int .i64 0) (c' := .int .i64 0) HR1.out
    have hv : Lv (fun k => k = g0 + 1) X (((X.setCell ⟨g0 + 1, 0, none⟩ (.int .i64 0)).setCell ⟨g0 + 1, 1, none⟩ (.int .i64 0)).setCell ⟨g0 + 1, 2, none⟩ (.int .i64 0)) :=
      ((lv_set X (g0 + 1) 0 _).trans (lv_set _ (g0 + 1) 1 _) (fun _ _ h => h) (fun _ _ h => h)).trans (lv_set _ (g0 + 1) 2 _) (fun _ _ h => h) (fun _ _ h => h)
    generalize (((X.setCell ⟨g0 + 1, 0, none⟩ (.int .i64 0)).setCell ⟨g0 + 1, 1, none⟩ (.int .i64 0)).setCell ⟨g0 + 1, 2, none⟩ (.int .i64 0)) = w4 at *
    have hv6 := lv_set w4 (g0 + 1 + 1) 0 (.bool false)
    have KB1 := Lib.hid (blk_off (g' := g0 + 1 + 1) (o' := 0) hz (by omega) (.bool false))
    have KB2 := Lib.hid (blk1_set (b := .bool false) (hv.heap HR2.out (by omega)))
    have KE := Lib.hid (hv6.heap (hv.heap XE.out (by have := HEE.out; omega)) (by have := HEE.out; omega))
    have HVV := Lib.hid (hv.trans hv6 (E := fun k => k = g0 + 1 ∨ k = g0 + 1 + 1) (fun _ _ h => .inl h) (fun _ _ h => .inr h))
    clear hz hv hv6
    refine leaves_marks2 [E] _ (fun E' h => by simp at h; subst h; exact KE.out) (by simp) (fun W' hW' => ?_)
    obtain ⟨r0, r1, r2⟩ := blk3 (hW'.heap KB1.out (by have := HEE.out; simp; omega))
    obtain ⟨rb, -⟩ := blk1 (hW'.heap KB2.out (by have := HEE.out; simp; omega))
    refine ⟨.tuple #[.agg #[.int .i64 0, .int .i64 0, .int .i64 0], .bool false], by simp [results, Tryz.results78, go_sem, r0, r1, r2, rb], by rw [HR.out]; rfl, ?_⟩
    exact (HVV.out.trans hW' (E := fun k => k = g0 + 1 ∨ k = g0 + 1 + 1 ∨ k = E) (fun _ _ h => h.elim .inl (fun h => .inr (.inl h))) (fun _ _ h => .inr (.inr (by simpa using h)))).ext0 EX.out (fun b hb h => by have := HEE.out; omega)
  case stop =>
    rintro E cd qq ow X hE6 hEn hq ⟨rfl, rfl, hLV, d, hqd, hR1, hR2⟩ hob hv6 hz hdf
    have HR : Hid (bo = some d) := Lib.hid (by rw [← HBO.out]; exact head_filter hq hqd)
    have EX := Lib.hid (hLV.ext0 EZ.out (fun b hb h => by omega))
    have HEE : Hid (g0 + 1 + 1 < E) := Lib.hid (by omega)
    have KE := Lib.hid hdf; have KB1 := Lib.hid hR1; have KB2 := Lib.hid hR2
    clear hLV hR1 hR2 hob hv6 hz hdf hq hqd hE6 hEn
    gi_wp2
    refine leaves_marks2 [E] _ (fun E' h => by simp at h; subst h; exact KE.out) (by simp) (fun W' hW' => ?_)
    obtain ⟨r0, r1, r2⟩ := blk3 (hW'.heap KB1.out (by have := HEE.out; simp; omega))
    obtain ⟨rb, -⟩ := blk1 (hW'.heap KB2.out (by have := HEE.out; simp; omega))
    refine ⟨.tuple #[.agg #[.int .i64 (d.1 : Int), .int .i64 (d.2.1 : Int), .int .i64 d.2.2], .bool true], by simp [results, Tryz.results78, go_sem, r0, r1, r2, rb], by rw [HR.out]; rfl, hW'.ext0 EX.out (fun b hb h => by have := HEE.out; simp at h; omega)⟩
end Go.Proofs.YtbcjllanigmioaaGreat

/- The program's OrderBroken and OrderLegal. No statement is proved here. -/
namespace Go.Proofs.YtbcjllanigmioaaGreat
open Go.RowKit Go.Maps

theorem brO_yes {ars : List Arr} {ps : List Pt} {xs : List Int} (h : permB (cntB ars ps) xs = true) : brO ars ps xs = brk1 (plTo (cntB ars ps) xs (cntB ars ps)) (depsB ars ps) := by
  unfold brO
  cases hb : progB ars ps with
  | true =>
    have e : cntB ars ps = (insM ps).length := by unfold cntB; rw [if_pos hb]
    rw [if_pos (by unfold ordB; rw [hb, ← e, h]; rfl)]
  | false =>
    rw [if_neg (by unfold ordB; rw [hb]; simp)]
    unfold depsB
    rw [hb]; rfl
theorem ordB_perm {ars : List Arr} {ps : List Pt} {xs : List Int} : ordB ars ps xs = (progB ars ps && permB (cntB ars ps) xs) := by
  unfold ordB cntB
  cases hb : progB ars ps with
  | true => rw [if_pos rfl]
  | false => rfl
theorem brO_no {ars : List Arr} {ps : List Pt} {xs : List Int} (h : permB (cntB ars ps) xs = false) : brO ars ps xs = none := by
  unfold brO
  rw [if_neg (by rw [ordB_perm, h]; simp)]
/-- A program as it lies, and the dependences of its events. -/
theorem prog_form {ars : List Arr} {ps : List Pt} {B0 : Nat} {w2 : World} {v : Value} (h0 : progB ars ps = false → v = .agg #[.map none, .int .i64 0, .slice none 0 0, .slice none 0 0])
    (h1 : progB ars ps = true → ∃ mo T q1 n1 c1 q2 c2, v = .agg #[.map mo, .int .i64 T, .slice q1 n1 c1, .slice q2 (evsOf ars ps).length c2] ∧ EvsOwn B0 w2 (.slice q2 (evsOf ars ps).length c2) (evsOf ars ps)) :
    ∃ mo T q1 n1 c1 q2 M c2, ∃ es : List Ev, v = .agg #[.map mo, .int .i64 T, .slice q1 n1 c1, .slice q2 M c2] ∧ es.length = M ∧ M ≤ 120 ∧ EvsOwn B0 w2 (.slice q2 M c2) es ∧ cntB ars ps = M ∧ dpOf (kEv es) (prTo M M) = depsB ars ps := by
  cases hb : progB ars ps with
  | false => exact ⟨_, _, _, _, _, _, _, _, [], h0 hb, rfl, by omega, ⟨[], World.ownsRow_nil _ _ _ _, fun i x h => by simp at h⟩, by unfold cntB; rw [hb]; rfl, by unfold depsB; rw [hb]; rfl⟩
  | true =>
    obtain ⟨mo, T, q1, n1, c1, q2, c2, rfl, he⟩ := h1 hb
    exact ⟨_, _, _, _, _, _, _, _, evsOf ars ps, rfl, rfl, by have := insM_120 hb; simpa [evsOf] using this, he, (evs_cnt hb).symm, by rw [evs_cnt hb]; exact dl_deps hb⟩

set_option linter.unusedVariables false in
set_option linter.unusedSimpArgs false in
set_option maxRecDepth 100000 in
set_option maxHeartbeats 4000000 in
theorem OrderBroken_any (v : Value) (ars : List Arr) (ps : List Pt) (p : Option Addr) (n co : Nat) (xs : List Int) (w : World) (hp : PrR w v ars ps) (hn : xs.length = n) (hs : IntsAt w (.slice p n co) xs) :
    Calls Tryz.prog 49 #[v, .slice p n co] w fun e w' => e = .returned (.tuple #[encO (brO ars ps xs), .bool (brO ars ps xs).isSome]) ∧ Ext w w' := by
  obtain ⟨qa, ca, qp, cp, rfl, -, -, ha, hps⟩ := hp.parts
  have HA := Lib.hid ha; have HPS := Lib.hid hps; have HN := Lib.hid hn; have HS := Lib.hid hs
  obtain ⟨bo, hbo⟩ : ∃ bo, brO ars ps xs = bo := ⟨_, rfl⟩
  obtain ⟨ans, hans⟩ : ∃ ans, olB ars ps xs = ans := ⟨_, rfl⟩
  try rw [hbo]
  try rw [hans]
  have HBO := Lib.hid hbo; have HANS := Lib.hid hans
  clear hp ha hps hn hs hbo hans
  go_enter Tryz.func49, Tryz.ntmps49
  go_wp2_with (fail)
  obtain ⟨W1, hW1⟩ : ∃ W1, ((w.alloc (.cells #[.slice qa ars.length ca, .slice qp ps.length cp] 32)).alloc (.cells #[.int .i64 0, .int .i64 0, .int .i64 0] 51)) = W1 := ⟨_, rfl⟩
  have E1 : Hid (Ext w W1) := Lib.hid (by rw [← hW1]; exact ((Ext.refl w).alloc _).alloc _)
  have C1 := Lib.hid (show W1.heap[w.heap.size + 1]? = some (.cells #[.int .i64 0, .int .i64 0, .int .i64 0] 51 (0, 0)) by rw [← hW1]; exact blk_at (by simp))
  try rw [hW1]
  clear hW1
  refine (programOf_any qa qp _ ca _ cp ars ps _ rfl rfl (HA.out.ext E1.out) (HPS.out.ext E1.out)).mono ?_
  rintro e w2 ⟨⟨v, rfl, h0, h1⟩, hE⟩
  have HE := Lib.hid (E1.out.trans hE)
  obtain ⟨mo, T, q1, n1, c1, q2, M, c2, es, rfl, hM, hM120, hev, hcnt, hdl⟩ := prog_form h0 (fun hb => by
    obtain ⟨Bm, D, q1, c1, q2, c2, rfl, -, -, -, -, he⟩ := h1 hb
    exact ⟨_, _, _, _, _, _, _, rfl, he⟩)
  have HM := Lib.hid hM; have HEV := Lib.hid hev; have HDL := Lib.hid hdl; have HCN := Lib.hid hcnt
  obtain ⟨pb, hpb⟩ : ∃ pb, progB ars ps = pb := ⟨_, rfl⟩
  rw [hpb]
  have HPB := Lib.hid hpb
  obtain ⟨pm, hpm⟩ : ∃ pm, permB M xs = pm := ⟨_, rfl⟩
  have HPM := Lib.hid hpm
  have C2 := Lib.hid (hE.blk C1.out)
  clear h0 h1 hM hev hdl hcnt hpb hpm hE
  go_wp2_with (fail)
  obtain ⟨w3, hw3⟩ : ∃ w3, w2.alloc (.cells #[.map mo, .int .i64 T, .slice q1 n1 c1, .slice q2 M c2] 88) = w3 := ⟨_, rfl⟩
  have E23 : Ext w2 w3 := by rw [← hw3]; exact (Ext.refl w2).alloc _
  have E3 : Hid (Ext w w3) := Lib.hid (HE.out.trans E23)
  have C3 := Lib.hid (E23.blk C2.out)
  have HEV3 := Lib.hid (HEV.out.ext E23)
  have P3 := Lib.hid (show w3.heap[w2.heap.size]? = some (.cells #[.map mo, .int .i64 T, .slice q1 n1 c1, .slice q2 M c2] 88 (0, 0)) by rw [← hw3]; exact blk_at rfl)
  try rw [hw3]
  clear hw3 E23
  refine (hasOrder_any mo T _ q2 M c2 p n co xs _ ⟨q1, n1, c1, rfl⟩ HN.out (HS.out.ext E3.out) (by omega)).mono ?_
  rw [HPM.out]
  rintro e w4 ⟨rfl, hE4⟩
  have E4 := Lib.hid (E3.out.trans hE4); have C4 := Lib.hid (hE4.blk C3.out); have HEV4 := Lib.hid (HEV3.out.ext hE4)
  obtain ⟨p0, p1, p2, p3, -⟩ := blk4f (hE4.blk P3.out)
  clear hE4
  cases pm with
  | false =>
    have HR : Hid (bo = none) := Lib.hid (by rw [← HBO.out]; exact brO_no (by rw [HCN.out]; exact HPM.out))
    obtain ⟨c0, c1', c2'⟩ := blk3 C4.out
    have f0 := blk3f C4.out 0; have f1 := blk3f C4.out 1; have f2 := blk3f C4.out 2
    clear p0 p1 p2 p3
    go_wp2
    have hb5 := blk3_set (a' := .int .i64 0) (b' := .int .i64 0) (c' := .int .i64 0) C4.out
    have E9 := (((E4.out.setCell (p := ⟨w.heap.size + 1, 0, none⟩) (Nat.le_succ _) (.int .i64 0)).setCell (p := ⟨w.heap.size + 1, 1, none⟩) (Nat.le_succ _) (.int .i64 0)).setCell (p := ⟨w.heap.size + 1, 2, none⟩) (Nat.le_succ _) (.int .i64 0))
    generalize (((w4.setCell ⟨w.heap.size + 1, 0, none⟩ (.int .i64 0)).setCell ⟨w.heap.size + 1, 1, none⟩ (.int .i64 0)).setCell ⟨w.heap.size + 1, 2, none⟩ (.int .i64 0)) = w9 at *
    obtain ⟨r0, r1, r2⟩ := blk3 hb5
    exact bodyPost_ret (v := .tuple #[.agg #[.int .i64 0, .int .i64 0, .int .i64 0], .bool false]) (by simp [results, Tryz.results49, go_sem, r0, r1, r2]) rfl ⟨by rw [HR.out]; rfl, E9⟩
  | true =>
    have hpx := (permB_inv HPM.out).2
    have HB1 : Hid (bo = brk1 (plTo M xs M) (depsB ars ps)) := Lib.hid (by rw [← HBO.out, brO_yes (by rw [HCN.out]; exact HPM.out), HCN.out])
    have HNM : Hid (n = M) := Lib.hid (by have h1 := (permB_inv HPM.out).1; have := HN.out; omega)
    go_wp2_with (fail)
    refine (graph_any _ es mo T q1 q2 n1 c1 M c2 _ HM.out hM120 HEV4.out).mono ?_
    rintro e w5 ⟨⟨v5, rfl, hd⟩, hE5⟩
    rw [HDL.out] at hd
    obtain ⟨q5, c5, rfl⟩ := hd.form
    have HD5 := Lib.hid hd; have E5 := Lib.hid (E4.out.trans hE5); have C5 := Lib.hid (hE5.blk C4.out)
    clear hd hE5 p0 p1 p2 p3
    go_wp2_with (fail)
    refine (firstBroken_any _ M _ c5 n co q5 p (depsB ars ps) xs _ HD5.out rfl (depsB_len ars ps) HN.out HNM.out hM120 (fun d hd => by rw [← HCN.out]; exact depsB_mem hd) hpx (HS.out.ext E5.out)).mono ?_
    rw [← HB1.out]
    rintro e w6 ⟨rfl, hE6⟩
    have E6' := Lib.hid (E5.out.trans hE6); have C6 := Lib.hid (hE6.blk C5.out)
    obtain ⟨c0, c1', c2'⟩ := blk3 C6.out
    have f0 := blk3f C6.out 0; have f1 := blk3f C6.out 1; have f2 := blk3f C6.out 2
    clear hE6 hpx
    obtain ⟨bo', hbo'⟩ : ∃ bo', bo = bo' := ⟨_, rfl⟩
    have HR := Lib.hid hbo'
    rw [hbo']
    clear hbo' HB1
    cases bo' with
    | none =>
      dsimp only [encO, Option.isSome]
      go_wp2
      have hb5 := blk3_set (a' := .int .i64 0) (b' := .int .i64 0) (c' := .int .i64 0) C6.out
      have E9 := (((E6'.out.setCell (p := ⟨w.heap.size + 1, 0, none⟩) (Nat.le_succ _) (.int .i64 0)).setCell (p := ⟨w.heap.size + 1, 1, none⟩) (Nat.le_succ _) (.int .i64 0)).setCell (p := ⟨w.heap.size + 1, 2, none⟩) (Nat.le_succ _) (.int .i64 0))
      generalize (((w6.setCell ⟨w.heap.size + 1, 0, none⟩ (.int .i64 0)).setCell ⟨w.heap.size + 1, 1, none⟩ (.int .i64 0)).setCell ⟨w.heap.size + 1, 2, none⟩ (.int .i64 0)) = w9 at *
      obtain ⟨r0, r1, r2⟩ := blk3 hb5
      exact bodyPost_ret (v := .tuple #[.agg #[.int .i64 0, .int .i64 0, .int .i64 0], .bool false]) (by simp [results, Tryz.results49, go_sem, r0, r1, r2]) rfl ⟨by rw [HR.out]; rfl, E9⟩
    | some d =>
      dsimp only [encO, Option.isSome]
      go_wp2
      have hb5 := blk3_set (a' := .int .i64 (d.1 : Int)) (b' := .int .i64 (d.2.1 : Int)) (c' := .int .i64 d.2.2) C6.out
      have E9 := (((E6'.out.setCell (p := ⟨w.heap.size + 1, 0, none⟩) (Nat.le_succ _) (.int .i64 (d.1 : Int))).setCell (p := ⟨w.heap.size + 1, 1, none⟩) (Nat.le_succ _) (.int .i64 (d.2.1 : Int))).setCell (p := ⟨w.heap.size + 1, 2, none⟩) (Nat.le_succ _) (.int .i64 d.2.2))
      generalize (((w6.setCell ⟨w.heap.size + 1, 0, none⟩ (.int .i64 (d.1 : Int))).setCell ⟨w.heap.size + 1, 1, none⟩ (.int .i64 (d.2.1 : Int))).setCell ⟨w.heap.size + 1, 2, none⟩ (.int .i64 d.2.2)) = w9 at *
      obtain ⟨r0, r1, r2⟩ := blk3 hb5
      exact bodyPost_ret (v := .tuple #[.agg #[.int .i64 (d.1 : Int), .int .i64 (d.2.1 : Int), .int .i64 d.2.2], .bool true]) (by simp [results, Tryz.results49, go_sem, r0, r1, r2]) rfl ⟨by rw [HR.out]; rfl, E9⟩

set_option linter.unusedVariables false in
set_option linter.unusedSimpArgs false in
set_option maxRecDepth 100000 in
set_option maxHeartbeats 4000000 in
theorem OrderLegal_any (v : Value) (ars : List Arr) (ps : List Pt) (p : Option Addr) (n co : Nat) (xs : List Int) (w : World) (hp : PrR w v ars ps) (hn : xs.length = n) (hs : IntsAt w (.slice p n co) xs) :
    Calls Tryz.prog 37 #[v, .slice p n co] w fun e w' => e = .returned (.bool (olB ars ps xs)) ∧ Ext w w' := by
  obtain ⟨qa, ca, qp, cp, rfl, -, -, ha, hps⟩ := hp.parts
  have HA := Lib.hid ha; have HPS := Lib.hid hps; have HN := Lib.hid hn; have HS := Lib.hid hs
  obtain ⟨bo, hbo⟩ : ∃ bo, brO ars ps xs = bo := ⟨_, rfl⟩
  obtain ⟨ans, hans⟩ : ∃ ans, olB ars ps xs = ans := ⟨_, rfl⟩
  try rw [hbo]
  try rw [hans]
  have HBO := Lib.hid hbo; have HANS := Lib.hid hans
  clear hp ha hps hn hs hbo hans
  go_enter Tryz.func37, Tryz.ntmps37
  go_wp2_with (fail)
  obtain ⟨W1, hW1⟩ : ∃ W1, w.alloc (.cells #[.slice qa ars.length ca, .slice qp ps.length cp] 32) = W1 := ⟨_, rfl⟩
  have E1 : Hid (Ext w W1) := Lib.hid (by rw [← hW1]; exact (Ext.refl w).alloc _)
  try rw [hW1]
  clear hW1
  refine (programOf_any qa qp _ ca _ cp ars ps _ rfl rfl (HA.out.ext E1.out) (HPS.out.ext E1.out)).mono ?_
  rintro e w2 ⟨⟨v, rfl, h0, h1⟩, hE⟩
  have HE := Lib.hid (E1.out.trans hE)
  obtain ⟨mo, T, q1, n1, c1, q2, M, c2, es, rfl, hM, hM120, hev, hcnt, hdl⟩ := prog_form h0 (fun hb => by
    obtain ⟨Bm, D, q1, c1, q2, c2, rfl, -, -, -, -, he⟩ := h1 hb
    exact ⟨_, _, _, _, _, _, _, rfl, he⟩)
  have HM := Lib.hid hM; have HEV := Lib.hid hev; have HDL := Lib.hid hdl; have HCN := Lib.hid hcnt
  obtain ⟨pb, hpb⟩ : ∃ pb, progB ars ps = pb := ⟨_, rfl⟩
  rw [hpb]
  have HPB := Lib.hid hpb
  obtain ⟨pm, hpm⟩ : ∃ pm, permB M xs = pm := ⟨_, rfl⟩
  have HPM := Lib.hid hpm
  clear h0 h1 hM hev hdl hcnt hpb hpm hE
  obtain ⟨w3, hw3⟩ : ∃ w3, w2.alloc (.cells #[.map mo, .int .i64 T, .slice q1 n1 c1, .slice q2 M c2] 88) = w3 := ⟨_, rfl⟩
  have E23 : Ext w2 w3 := by rw [← hw3]; exact (Ext.refl w2).alloc _
  have E3 : Hid (Ext w w3) := Lib.hid (HE.out.trans E23)
  have HEV3 := Lib.hid (HEV.out.ext E23)
  have P3 := Lib.hid (show w3.heap[w2.heap.size]? = some (.cells #[.map mo, .int .i64 T, .slice q1 n1 c1, .slice q2 M c2] 88 (0, 0)) by rw [← hw3]; exact blk_at rfl)
  have HW3 := Lib.hid hw3
  clear hw3 E23
  cases pb with
  | false =>
    have HR : Hid (ans = false) := Lib.hid (by rw [← HANS.out]; unfold olB ordB; rw [HPB.out]; rfl)
    go_wp2
    go_ret
    exact ⟨ret_bool HR.out.symm, by first | (rw [HW3.out]; exact E3.out) | exact E3.out⟩
  | true =>
    go_wp2_with (fail)
    try rw [HW3.out]
    refine (hasOrder_any mo T _ q2 M c2 p n co xs _ ⟨q1, n1, c1, rfl⟩ HN.out (HS.out.ext E3.out) (by omega)).mono ?_
    rw [HPM.out]
    rintro e w4 ⟨rfl, hE4⟩
    have E4 := Lib.hid (E3.out.trans hE4); have HEV4 := Lib.hid (HEV3.out.ext hE4)
    obtain ⟨p0, p1, p2, p3, -⟩ := blk4f (hE4.blk P3.out)
    clear hE4
    cases pm with
    | false =>
      have HR : Hid (ans = false) := Lib.hid (by rw [← HANS.out]; unfold olB; rw [ordB_perm, HCN.out, HPM.out]; simp)
      clear p0 p1 p2 p3
      go_wp2
      go_ret
      exact ⟨ret_bool HR.out.symm, E4.out⟩
    | true =>
      have hpx := (permB_inv HPM.out).2
      have HB1 : Hid (bo = brk1 (plTo M xs M) (depsB ars ps)) := Lib.hid (by rw [← HBO.out, brO_yes (by rw [HCN.out]; exact HPM.out), HCN.out])
      have HR : Hid (ans = !bo.isSome) := Lib.hid (by rw [← HANS.out]; unfold olB; rw [ordB_perm, HCN.out, HPM.out, HPB.out, HBO.out]; rfl)
      have HNM : Hid (n = M) := Lib.hid (by have h1 := (permB_inv HPM.out).1; have := HN.out; omega)
      go_wp2_with (fail)
      refine (graph_any _ es mo T q1 q2 n1 c1 M c2 _ HM.out hM120 HEV4.out).mono ?_
      rintro e w5 ⟨⟨v5, rfl, hd⟩, hE5⟩
      rw [HDL.out] at hd
      obtain ⟨q5, c5, rfl⟩ := hd.form
      have HD5 := Lib.hid hd; have E5 := Lib.hid (E4.out.trans hE5)
      clear hd hE5 p0 p1 p2 p3
      go_wp2_with (fail)
      refine (firstBroken_any _ M _ c5 n co q5 p (depsB ars ps) xs _ HD5.out rfl (depsB_len ars ps) HN.out HNM.out hM120 (fun d hd => by rw [← HCN.out]; exact depsB_mem hd) hpx (HS.out.ext E5.out)).mono ?_
      rw [← HB1.out]
      rintro e w6 ⟨rfl, hE6⟩
      have E6 := Lib.hid (E5.out.trans hE6)
      clear hE6 hpx HB1
      cases bo with
      | none =>
        dsimp only [encO, Option.isSome]
        go_wp2
        go_ret
        exact ⟨ret_bool HR.out.symm, E6.out.alloc _⟩
      | some d =>
        dsimp only [encO, Option.isSome]
        go_wp2
        go_ret
        exact ⟨ret_bool HR.out.symm, E6.out.alloc _⟩
end Go.Proofs.YtbcjllanigmioaaGreat
