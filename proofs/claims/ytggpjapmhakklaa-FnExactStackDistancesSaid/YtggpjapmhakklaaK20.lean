/- The texts U6, joined. No statement is proved here. -/
import Derived.Test.YtggpjapmhakklaaK16
import Derived.Test.YtggpjapmhakklaaK19
/- The program's StackDistances (by u6.py). No statement is proved here. -/
namespace Go.Proofs.Ytggpjapmhakklaa
open Go.RowKit Go.Maps
attribute [local go_sem] Oper.semAt_some

theorem row_ne_ty {B n size : Nat} {e : TypeId} {w : World} {v : Value} {xs : List Value} (h : w.ownsRow B e size v n xs) {g : Nat} {cs : Array Value} {t : TypeId} {z : Nat × Nat} (hg : w.heap[g]? = some (.cells cs t z)) (ht : t ≠ e) {b : Nat} (hb : v.ownBlock = some b) : b ≠ g := by
  rintro rfl
  rcases h.2 with ⟨rfl, _⟩ | ⟨g', cap, cur, rfl, _, hg', _⟩
  · cases hb
  · cases hb
    rw [hg'] at hg
    cases hg
    exact ht rfl
theorem row_ne_map {B n size : Nat} {e : TypeId} {w : World} {v : Value} {xs : List Value} (h : w.ownsRow B e size v n xs) {mb m k : Nat} {F : Int → Option Value} (hm : IMc w mb m F k) {b : Nat} (hb : v.ownBlock = some b) : b ≠ mb := by
  rintro rfl
  rcases h.2 with ⟨rfl, _⟩ | ⟨g', cap, cur, rfl, _, hg', _⟩
  · cases hb
  · cases hb
    exact map_ne_ent hm hg' rfl
/-- The ring's blocks are none of a row of ints. -/
theorem row_ne_rec {B n : Nat} {w : World} {v : Value} {xs : List Value} (h : w.ownsRow B 3 1 v n xs) {mb e0 m : Nat} {L : List (Nat × Int)} (hR : RecS w mb e0 m L) {b : Nat} (hb : v.ownBlock = some b) : b ∉ mb :: e0 :: L.map (fun x => x.1) := fun hm => by
  obtain ⟨⟨la, er, h1, h2, h3⟩, h4, -⟩ := hR
  rcases List.mem_cons.1 hm with e | hm
  · exact row_ne_map h h4 hb e
  · rcases List.mem_cons.1 hm with e | hm
    · exact row_ne_ty h (h3 (e0, 0) (by simp)) (by decide) hb e
    · obtain ⟨x, hx, e⟩ := List.mem_map.1 hm
      exact row_ne_ty h (h3 x (List.mem_cons_of_mem _ hx)) (by decide) hb e.symm
theorem mv_snd (b : Nat) (c : Int) (L : List (Nat × Int)) : ((b, c) :: L.filter (fun x => decide (x.2 ≠ c))).map (fun x => x.2) = mvF c (L.map (fun x => x.2)) := by
  unfold mvF
  rw [List.map_cons]
  congr 1
  induction L with
  | nil => rfl
  | cons y L ih =>
    by_cases e : y.2 = c
    · rw [List.filter_cons_of_neg (by simpa using e), List.map_cons, List.filter_cons_of_neg (by simpa using e), ih]
    · rw [List.filter_cons_of_pos (by simpa using e), List.map_cons, List.map_cons, List.filter_cons_of_pos (by simpa using e), ih]
theorem own_shape {B n size : Nat} {e : TypeId} {w : World} {v : Value} {xs : List Value} (h : w.ownsRow B e size v n xs) (h0 : 0 < n) : ∃ q c, v = .slice q n c := by
  rcases h.2 with ⟨rfl, hn0⟩ | ⟨g', c', cur, e, _⟩
  · exact absurd hn0 (by omega)
  · exact ⟨_, c', e⟩
theorem sdP_app (a b : List Int) : sdP (a ++ b) a.length = sdP a a.length := by
  unfold sdP
  refine List.map_congr_left (fun j hj => ?_)
  have hj2 : j < a.length := List.mem_range.1 hj
  rw [List.take_append_of_le_length (by omega), List.getD_eq_getElem?_getD, List.getD_eq_getElem?_getD, List.getElem?_append_left hj2]
/-- What the consumer of the accesses holds: the cache, and the row of distances. -/
def SdI (wb : World) (LB mb e0 : Nat) (s : List (Int × Int)) (own : List Nat) (X : World) : Prop :=
  ∃ L nM q k cap, own = LB :: mb :: e0 :: (L.map (fun x => x.1) ++ (Value.slice q k cap).ownBlock.toList) ∧ Lv (fun b => b ∈ [LB, mb, e0]) wb X ∧ X.heap[LB]? = some (.cells #[.slice q k cap] 22 (0, 0)) ∧ s.length = k ∧
    IntsOwn wb.heap.size X (.slice q k cap) (sdP (s.map (fun x => x.1)) k) ∧ RecS X mb e0 nM L ∧ nM ≤ k ∧ L.map (fun x => x.2) = stkF (s.map (fun x => x.1)) ∧ ∀ b ∈ L.map (fun x => x.1), wb.heap.size ≤ b
theorem SdI.stable (wb : World) (LB mb e0 : Nat) : StableB wb.heap.size (SdI wb LB mb e0) := by
  rintro s own X X' ⟨L, nM, q, k, cap, rfl, h1, h2, h3, h4, h5, h6, h7, h8⟩ hv
  refine ⟨L, nM, q, k, cap, rfl, h1.trans hv (fun _ _ h => h) (fun b hb h => by omega), hv.heap h2 (fun h => h.1 (by simp)), h3, row_lv h4 hv (fun b hb h => h.1 (by simp [hb])), h5.lv hv (fun b hb h => h.1 ?_), h6, h7, h8⟩
  simp only [List.mem_cons, List.mem_append] at hb ⊢
  rcases hb with h | h | h
  · exact .inr (.inl h)
  · exact .inr (.inr (.inl h))
  · exact .inr (.inr (.inr (.inl h)))

set_option linter.unusedVariables false in
set_option linter.unusedSimpArgs false in
set_option maxRecDepth 100000 in
set_option maxHeartbeats 4000000 in
theorem StackDistances_any (p : Option Addr) (n c : Nat) (xs : List Int) (w : World) (hn : xs.length = n) (hx : ∀ x ∈ xs, i64 x) (hs : IntsAt w (.slice p n c) xs) :
    Calls Try.prog 14 #[.slice p n c] w fun e w' => (∃ v', e = .returned v' ∧ IntsOwn w.heap.size w' v' (sdB xs)) ∧ Ext w w' := by
  obtain ⟨i0, hi, hz0, hz1, hz2⟩ := info_parts infoInt
  obtain ⟨hm63, -⟩ := hs.cl
  have HN := Lib.hid hn; have HS := Lib.hid hs; have HX := Lib.hid hx
  clear hn hs hx
  refine (callsIn_wide (n := 6)).1 ?_
  refine callsIn_of_wp_marks Try.func14 rfl trivial ?_ rfl
  simp only [Try.ntmps14, List.size_toArray, List.length_cons, List.length_nil, Nat.reduceAdd, Nat.reduceSub, Array.replicate_succ, Array.replicate_zero, List.push_toArray, List.append_toArray, List.nil_append, List.cons_append]
  have hdd : ∀ j : Nat, (Fence.wide.depth.isSome = true → 1 ≤ j) := fun j h => by cases h
  by_cases hbig : (600 : Int) < (n : Int)
  · have HR : Hid (sdB xs = []) := Lib.hid (by unfold sdB; rw [HN.out, if_neg (by omega)])
    gi_wp2
    refine leaves_marks2 [] _ (by simp) (by simp) (fun W' hW' => ?_)
    exact ⟨.slice none 0 0, by simp [results, Try.results14, go_sem], ⟨_, rfl, by rw [HR.out]; exact World.ownsRow_nil _ _ _ _⟩, hW'.ext0 (Ext.refl w) (by simp)⟩
  have hm : n ≤ 600 := by omega
  have HR : Hid (sdB xs = sdP xs n) := Lib.hid (by unfold sdB; rw [HN.out, if_pos hm, ← HN.out]; rfl)
  obtain ⟨g0, hg0⟩ : ∃ g0, w.heap.size = g0 := ⟨_, rfl⟩
  gi_wp2_with (fail)
  refine ⟨trivial, ?_⟩
  refine (callsIn_wide.2 (recentOf_any _)).mono ?_
  rintro e w1 ⟨mb, e0, rfl, hrec, hmb, he0, hE⟩
  rw [hg0] at hmb he0
  obtain ⟨RB, hRB⟩ : ∃ RB, w1.heap.size = RB := ⟨_, rfl⟩
  have hrl := hrec.lt
  rw [hRB] at hrl
  have hmbl := hrl mb (by simp); have he0l := hrl e0 (by simp)
  obtain ⟨W2, hW2⟩ : ∃ W2, (w1.alloc (.cells #[.map (some mb), .pointer (some ⟨e0, 0, none⟩)] 61)).alloc (.cells #[.slice none 0 0] 22) = W2 := ⟨_, rfl⟩
  have hs2 : W2.heap.size = RB + 2 := by rw [← hW2]; simp [hRB]
  have E2 : Ext w1 W2 := by rw [← hW2]; exact ((Ext.refl w1).alloc _).alloc _
  have A2 : W2.heap[RB]? = some (.cells #[.map (some mb), .pointer (some ⟨e0, 0, none⟩)] 61 (0, 0)) := by rw [← hW2]; exact blk_old (blk_at hRB.symm)
  have P2 : W2.heap[RB + 1]? = some (.cells #[.slice none 0 0] 22 (0, 0)) := by rw [← hW2]; exact blk_at (by simp [hRB])
  have HE2 := Lib.hid (hE.trans E2); have HREC2 := Lib.hid (hrec.ext E2); have HA2 := Lib.hid A2; have HP2 := Lib.hid P2; have HS2 := Lib.hid hs2; have HSB := Lib.hid (HS.out.ext (hE.trans E2)); have HG0 := Lib.hid hg0
  have HPB : Hid (∀ b o, p = some ⟨b, o, none⟩ → 0 < n → b < g0) := Lib.hid (fun b o e h0 => by rw [← hg0]; exact HS.out.blk_lt (by rw [HN.out]; exact h0) e)
  clear hE hrec E2 A2 P2 hs2 hg0 hrl
  gi_wp2_with (fail)
  try rw [hRB]
  try rw [hW2]
  clear hW2 hRB
  refine ⟨trivial, ?_⟩
  refine (callsIn_wide.2 (uses_call p n c xs W2 HN.out hm HX.out HSB.out)).mono ?_
  rintro e wb ⟨PT, PN, q1, d1, rfl, hE, hPT, hPN, hbT, hbN, hnx⟩
  rw [HS2.out] at hPT hPN hnx
  have HQB : Hid (∀ b o, q1 = some ⟨b, o, none⟩ → RB + 2 ≤ b ∧ b < wb.heap.size) := Lib.hid (fun b o e => by subst e; exact World.ownsRow.lt hnx b rfl)
  have hnxl : (nxL xs n).length = n := by rw [nxL_len, HN.out]
  have HEb := Lib.hid (HE2.out.trans hE); have HRECb := Lib.hid (HREC2.out.ext hE); have HAb := Lib.hid (hE.blk HA2.out); have HPb := Lib.hid (hE.blk HP2.out); have HSb := Lib.hid (HSB.out.ext hE); have HT := Lib.hid hbT; have HNb := Lib.hid hbN; have HNX := Lib.hid hnx.at
  have hPTl := lt_of_block hbT; have hPNl := lt_of_block hbN
  have hbz : RB + 2 ≤ wb.heap.size := by have := hE.size_le; have := HS2.out; omega
  clear hE hbT hbN hnx HA2 HP2 HREC2 HE2 HSB
  obtain ⟨LB, hLB⟩ : ∃ LB, RB + 1 = LB := ⟨_, rfl⟩
  rw [hLB] at HPb ⊢
  gi_wp2_with (fail)
  refine wpIn_rangeFunc_baseA (w := wb) rfl (hdd _) (gf := 60) (lb := #[.pointer (some ⟨PT, 0, none⟩), .pointer (some ⟨PN, 0, none⟩)]) rfl trivial (enters_of Try.func60 (by kernel_rfl) rfl)
    wb.heap.size (Nat.le_refl _) (uses_seqB wb.heap.size _ _ PT PN n c d1 p q1 xs (nxL xs n) (fun b => b < wb.heap.size ∧ b ≠ LB ∧ b ≠ mb ∧ b ≠ e0) wb HN.out hm hnxl HSb.out HNX.out HT.out HNb.out (fun b h => h.1) ⟨hPTl, by omega, by omega, by omega⟩ ⟨hPNl, by omega, by omega, by omega⟩ (fun b o hb h0 => by have := HPB.out b o hb h0; exact ⟨by omega, by omega, by omega, by omega⟩) (fun b o hb h0 => by have := HQB.out b o hb; exact ⟨by omega, by omega, by omega, by omega⟩))
    (fun b h => h.1) (fun b h => h.elim) (fun x Wa Wb _ _ => trivial) (fun Wa Wb _ _ => trivial) (fun _ => rfl)
    (SdI wb LB mb e0) (fun cd s own X => False) (SdI.stable wb LB mb e0) (by
      rintro cd s o X X' h hv
      exact h.elim)
    [LB, mb, e0] (fun b hb => by simp at hb; rcases hb with rfl | rfl | rfl; exact ⟨by omega, fun h => h.2.1 rfl⟩; exact ⟨by omega, fun h => h.2.2.1 rfl⟩; exact ⟨by omega, fun h => h.2.2.2 rfl⟩) ⟨[], 0, none, 0, 0, rfl, Lv.refl _ _, HPb.out, rfl, World.ownsRow_nil _ _ _ _, HRECb.out, Nat.le_refl _, rfl, by simp⟩
    (fun (x : Int × Int) (a' : Act) (X : World) => ∃ g, X.heap[g]? = some (.cells #[.int .i64 x.1, .int .i64 x.2] 67 (0, 0)) ∧ a' = { tmps := #[.slice p n c, undef, .slice none 0 0, .pointer (some ⟨RB, 0, none⟩), .pointer (some ⟨LB, 0, none⟩), .pointer (some ⟨g, 0, none⟩), .slice p n c, .int .i64 (n : Int), .bool false, .agg #[.map (some mb), .pointer (some ⟨e0, 0, none⟩)], .slice p n c, .func (.func 60) #[] #[.pointer (some ⟨PT, 0, none⟩), .pointer (some ⟨PN, 0, none⟩)], .agg #[.int .i64 x.1, .int .i64 x.2], undef, undef, undef, undef, undef, undef, undef, undef, undef, undef, undef], defers := [] })
    ?ast ?assign ?body ?done ?stop
  case ast =>
    rintro x a' W W' l o ⟨g, h4, h5⟩ ho hv
    exact ⟨g, hv.heap h4 (fun e => by subst e; rw [h4] at ho; cases ho), h5⟩
  case assign =>
    intro l2 y X K hy hK
    obtain ⟨yc, yn⟩ := y
    dsimp only [encU]
    gi_wp2
    exact hK _ _ (Lv.alloc _ X _) ⟨X.heap.size, blk_at rfl, rfl⟩
  case body =>
    rintro l2 pre0 x ow a' X ⟨L, nM, q, k, cap, rfl, hLV, hLBX, hk, hrow, hrec, hnM, hsnd, hLb⟩ hpx hrx hob ⟨g, hg, rfl⟩
    obtain ⟨x, nx⟩ := x
    dsimp only at hg
    have hxm : x ∈ xs := by
      have h1 : (x, nx) ∈ usL xs (nxL xs n) := List.IsPrefix.mem (by simp) hpx
      have h2 : x ∈ (usL xs (nxL xs n)).map (fun y => y.1) := List.mem_map.2 ⟨(x, nx), h1, rfl⟩
      rw [usL_fst (by rw [nxL_len])] at h2
      exact h2
    have hxi := HX.out x hxm
    have hpl := hpx.length_le
    rw [usL_len (by rw [nxL_len]), HN.out, List.length_append, hk, List.length_cons, List.length_nil] at hpl
    have hL1 : L.length ≤ 1000 := by
      have h1 : L.length = (stkF (pre0.map (fun x => x.1))).length := by rw [← hsnd, List.length_map]
      have h2 := stkF_len (pre0.map (fun x => x.1))
      rw [List.length_map, hk] at h2
      omega
    obtain ⟨ps, hps⟩ : ∃ ps, pre0.map (fun x => x.1) = ps := ⟨_, rfl⟩
    have hps2 : (pre0 ++ [(x, nx)]).map (fun x => x.1) = ps ++ [x] := by rw [List.map_append, hps]; rfl
    have hpsl : ps.length = k := by rw [← hps, List.length_map, hk]
    rw [hps] at hrow hsnd
    have hSD : sdP (ps ++ [x]) (k + 1) = sdP ps k ++ [sdV x (L.map (fun x => x.2))] := by
      rw [sdP_next (x := x) (by rw [List.getElem?_append_right (by omega), hpsl]; simp), List.take_left' hpsl, hsnd, ← hpsl, sdP_app]
    have hRBX := hLV.heap HAb.out (fun h => by simp at h; omega)
    have HRO : Hid (X.ownsRow wb.heap.size 3 1 (.slice q k cap) k ((sdP ps k).map (Value.int .i64))) := Lib.hid (IntsOwn.row hrow (sdP_len ps k))
    have HREC := Lib.hid hrec
    have hrb : ∀ b, (Value.slice q k cap).ownBlock = some b → b ∉ mb :: e0 :: L.map (fun x => x.1) := fun b hb => row_ne_rec HRO.out hrec hb
    have hLBn : ∀ b, (Value.slice q k cap).ownBlock = some b → b ≠ LB := fun b hb => row_ne_ty HRO.out hLBX (by decide) hb
    have hRBn : ∀ b, (Value.slice q k cap).ownBlock = some b → b ≠ RB := fun b hb => row_ne_ty HRO.out hRBX (by decide) hb
    have hgn : ∀ b, (Value.slice q k cap).ownBlock = some b → b ≠ g := fun b hb => row_ne_ty HRO.out hg (by decide) hb
    have hgL : g ≠ LB := fun e => by subst e; rw [hg] at hLBX; simp at hLBX
    have hRL : RB ≠ LB := by omega
    have hrLB : LB ∉ mb :: e0 :: L.map (fun x => x.1) := fun h => by
      rcases List.mem_cons.1 h with e | h
      · exact map_ne_ent hrec.2.1 hLBX e.symm
      · obtain ⟨⟨la, er, -, -, h3⟩, -⟩ := hrec
        obtain ⟨cc, he⟩ := ring_ent h3 (by rcases List.mem_cons.1 h with e | h; exact .inl e; exact .inr h)
        unfold EntB at he
        rw [hLBX] at he
        simp at he
    have hS0 : ∀ W : World, W.heap[LB]? = X.heap[LB]? → W.heap[RB]? = X.heap[RB]? → W.heap[g]? = X.heap[g]? → W.cell? ⟨LB, 0, none⟩ = some (.slice q k cap) ∧ W.cell? ⟨RB, 0, none⟩ = some (.map (some mb)) ∧ W.cell? ⟨RB, 1, none⟩ = some (.pointer (some ⟨e0, 0, none⟩)) ∧ W.cell? ⟨g, 0, none⟩ = some (.int .i64 x) := fun W h1 h2 h3 =>
      ⟨(blk1 (h1.trans hLBX)).1, (blk2 (h2.trans hRBX)).1, (blk2 (h2.trans hRBX)).2.1, (blk2 (h3.trans hg)).1⟩
    have hEb : ∀ W, Ext X W → ∀ b, b < X.heap.size → W.heap[b]? = X.heap[b]? := fun W h b hb => h.block b hb
    have hLBl := lt_of_block hLBX; have hRBl := lt_of_block hRBX; have hgl := lt_of_block hg
    have HSO : Hid (∀ W, Ext X W → W.cell? ⟨LB, 0, none⟩ = some (.slice q k cap) ∧ W.cell? ⟨RB, 0, none⟩ = some (.map (some mb)) ∧ W.cell? ⟨RB, 1, none⟩ = some (.pointer (some ⟨e0, 0, none⟩)) ∧ W.cell? ⟨g, 0, none⟩ = some (.int .i64 x)) := Lib.hid (fun W h => hS0 W (hEb W h _ hLBl) (hEb W h _ hRBl) (hEb W h _ hgl))
    have hgrb : ∀ v w7, Ext X v → v.grownBy w7 (Value.slice q k cap).ownBlock → ∀ b, b < X.heap.size → (∀ b', (Value.slice q k cap).ownBlock = some b' → b' ≠ b) → w7.heap[b]? = X.heap[b]? := fun v w7 h hgr b hb hne =>
      ((Lv.grown (D := fun k' => (Value.slice q k cap).ownBlock = some k') hgr (fun r e _ => e)).block b (Nat.lt_of_lt_of_le hb h.size_le) (fun e => hne b e rfl)).trans (hEb v h b hb)
    have HSO7 : Hid (∀ v w7, Ext X v → v.grownBy w7 (Value.slice q k cap).ownBlock → w7.cell? ⟨LB, 0, none⟩ = some (.slice q k cap) ∧ w7.cell? ⟨RB, 0, none⟩ = some (.map (some mb)) ∧ w7.cell? ⟨RB, 1, none⟩ = some (.pointer (some ⟨e0, 0, none⟩)) ∧ w7.cell? ⟨g, 0, none⟩ = some (.int .i64 x)) := Lib.hid (fun v w7 h hgr => hS0 w7 (hgrb v w7 h hgr _ hLBl hLBn) (hgrb v w7 h hgr _ hRBl hRBn) (hgrb v w7 h hgr _ hgl hgn))
    have HFZ7 : Hid (∀ v w7, Ext X v → v.grownBy w7 (Value.slice q k cap).ownBlock → w7.frozen? ⟨LB, 0, none⟩ = false) := Lib.hid (fun v w7 h hgr => (blk1 ((hgrb v w7 h hgr _ hLBl hLBn).trans hLBX)).2)
    have HSTEP : Hid (∀ v w7 q' cap', Ext X v → v.grownBy w7 (Value.slice q k cap).ownBlock → w7.ownsRow wb.heap.size 3 1 (.slice q' (k + 1) cap') (k + 1) ((sdP ps k).map (Value.int .i64) ++ [.int .i64 (sdV x (L.map (fun x => x.2)))]) → ((Value.slice q' (k + 1) cap').ownBlock = (Value.slice q k cap).ownBlock ∨ (Value.slice q' (k + 1) cap').ownBlock = some v.heap.size) →
        RecS (w7.setCell ⟨LB, 0, none⟩ (.slice q' (k + 1) cap')) mb e0 nM L ∧ (w7.setCell ⟨LB, 0, none⟩ (.slice q' (k + 1) cap')).heap[LB]? = some (.cells #[.slice q' (k + 1) cap'] 22 (0, 0)) ∧ IntsOwn wb.heap.size (w7.setCell ⟨LB, 0, none⟩ (.slice q' (k + 1) cap')) (.slice q' (k + 1) cap') (sdP (ps ++ [x]) (k + 1)) ∧
        Lv (fun b => b = LB ∨ (Value.slice q k cap).ownBlock = some b) X (w7.setCell ⟨LB, 0, none⟩ (.slice q' (k + 1) cap')) ∧
        (w7.setCell ⟨LB, 0, none⟩ (.slice q' (k + 1) cap')).cell? ⟨RB, 0, none⟩ = some (.map (some mb)) ∧ (w7.setCell ⟨LB, 0, none⟩ (.slice q' (k + 1) cap')).cell? ⟨RB, 1, none⟩ = some (.pointer (some ⟨e0, 0, none⟩)) ∧ (w7.setCell ⟨LB, 0, none⟩ (.slice q' (k + 1) cap')).cell? ⟨g, 0, none⟩ = some (.int .i64 x) ∧ (w7.setCell ⟨LB, 0, none⟩ (.slice q' (k + 1) cap')).cell? ⟨g, 1, none⟩ = some (.int .i64 nx) ∧
        ∀ b, (Value.slice q' (k + 1) cap').ownBlock = some b → ((Value.slice q k cap).ownBlock = some b ∨ X.heap.size ≤ b) ∧ b < (w7.setCell ⟨LB, 0, none⟩ (.slice q' (k + 1) cap')).heap.size) := Lib.hid (fun v w7 q' cap' h hgr hown hat => by
      have hlv7 : Lv (fun b => (Value.slice q k cap).ownBlock = some b) X w7 := (h.lv (D := fun _ => False)).trans (Lv.grown hgr (fun r e _ => e)) (fun _ _ h => h.elim) (fun _ _ h => h)
      have hlv8 : Lv (fun b => b = LB ∨ (Value.slice q k cap).ownBlock = some b) X (w7.setCell ⟨LB, 0, none⟩ (.slice q' (k + 1) cap')) := hlv7.trans (lv_set _ _ _ _) (fun _ _ h => .inr h) (fun _ _ h => .inl h)
      have hI7 : IntsOwn wb.heap.size w7 (.slice q' (k + 1) cap') (sdP (ps ++ [x]) (k + 1)) := IntsOwn.mk (by rw [hSD, List.map_append]; exact hown) (sdP_len _ _)
      have hLB7 := (hgrb v w7 h hgr _ hLBl hLBn).trans hLBX
      have hRB8 := hlv8.heap hRBX (fun e => by rcases e with e | e; exact hRL e; exact hRBn _ e rfl)
      have hg8 := hlv8.heap hg (fun e => by rcases e with e | e; exact hgL e; exact hgn _ e rfl)
      refine ⟨hrec.lv hlv8 (fun b hb e => ?_), blk1_set hLB7, row_lv hI7 (lv_set _ _ _ _) (fun b hb e => row_ne_ty hI7 hLB7 (by decide) hb e), hlv8, (blk2 hRB8).1, (blk2 hRB8).2.1, (blk2 hg8).1, (blk2 hg8).2.1, fun b hb => ⟨?_, ?_⟩⟩
      · rcases e with e | e
        · exact hrLB (e ▸ hb)
        · exact hrb b e hb
      · rcases hat with e | e
        · exact .inl (e ▸ hb)
        · rw [hb] at e; have := h.size_le; cases e; exact .inr this
      · rw [World.size_setCell]; exact (World.ownsRow.lt hI7 b hb).2)
    have HFIN : Hid (∀ (W8 W9 : World) (q' : Option Addr) (cap' b : Nat), (RecS W8 mb e0 nM L ∧ W8.heap[LB]? = some (.cells #[.slice q' (k + 1) cap'] 22 (0, 0)) ∧ IntsOwn wb.heap.size W8 (.slice q' (k + 1) cap') (sdP (ps ++ [x]) (k + 1)) ∧ Lv (fun b => b = LB ∨ (Value.slice q k cap).ownBlock = some b) X W8 ∧
        W8.cell? ⟨RB, 0, none⟩ = some (.map (some mb)) ∧ W8.cell? ⟨RB, 1, none⟩ = some (.pointer (some ⟨e0, 0, none⟩)) ∧ W8.cell? ⟨g, 0, none⟩ = some (.int .i64 x) ∧ W8.cell? ⟨g, 1, none⟩ = some (.int .i64 nx) ∧ ∀ b, (Value.slice q' (k + 1) cap').ownBlock = some b → ((Value.slice q k cap).ownBlock = some b ∨ X.heap.size ≤ b) ∧ b < W8.heap.size) →
        RecS W9 mb e0 (nM + 1) ((b, x) :: L.filter (fun y => decide (y.2 ≠ x))) → (b ∈ L.map (fun x => x.1) ∨ W8.heap.size ≤ b) → Lv (fun k => k ∈ mb :: e0 :: L.map (fun x => x.1)) W8 W9 →
        ∃ own', Grew (LB :: mb :: e0 :: (L.map (fun x => x.1) ++ (Value.slice q k cap).ownBlock.toList)) own' X W9 ∧ SdI wb LB mb e0 (pre0 ++ [(x, nx)]) own' W9) := Lib.hid (fun W8 W9 q' cap' b ⟨h1, h2, h3, h4, _, _, _, _, h9⟩ hr hb hl => by
      have hI : ∀ k', k' ∈ mb :: e0 :: L.map (fun x => x.1) → k' ≠ LB := fun k' hk' e => hrLB (e ▸ hk')
      have hrow9 : IntsOwn wb.heap.size W9 (.slice q' (k + 1) cap') (sdP (ps ++ [x]) (k + 1)) := row_lv h3 hl (fun b' hb' hd => row_ne_rec h3 h1 hb' hd)
      have hXW : Lv (fun b => b ∈ LB :: mb :: e0 :: (L.map (fun x => x.1) ++ (Value.slice q k cap).ownBlock.toList)) X W9 := h4.trans hl (fun b' _ h => by
          rcases h with h | h
          · simp [h]
          · simp [h]) (fun b' _ h => by
          simp only [List.mem_cons, List.mem_append] at h ⊢
          rcases h with h | h | h
          · exact .inr (.inl h)
          · exact .inr (.inr (.inl h))
          · exact .inr (.inr (.inr (.inl h))))
      have hs1 := h4.size; have hs2 := hl.size
      have hown := hob
      refine ⟨LB :: mb :: e0 :: (((b, x) :: L.filter (fun y => decide (y.2 ≠ x))).map (fun x => x.1) ++ (Value.slice q' (k + 1) cap').ownBlock.toList), ⟨hXW, fun k' hk' => ?_⟩, _, nM + 1, q', k + 1, cap', rfl, ?_, hl.heap h2 (fun h => hrLB h), by simp [hk], by rw [hps2]; exact hrow9, hr, by omega, by rw [mv_snd, hps2, stkF_snoc, hsnd], fun b' hb' => ?_⟩
      · simp only [List.map_cons, List.mem_cons, List.mem_append, Option.mem_toList] at hk'
        have hlX : ∀ y, y ∈ LB :: mb :: e0 :: (L.map (fun x => x.1) ++ (Value.slice q k cap).ownBlock.toList) → (y ∈ LB :: mb :: e0 :: (L.map (fun x => x.1) ++ (Value.slice q k cap).ownBlock.toList) ∨ X.heap.size ≤ y) ∧ y < W9.heap.size := fun y hy => ⟨.inl hy, by have := (hown y hy).1; omega⟩
        rcases hk' with e | e | e | (e | e) | e
        · exact hlX _ (by simp [e])
        · exact hlX _ (by simp [e])
        · exact hlX _ (by simp [e])
        · subst e
          rcases hb with hb | hb
          · exact hlX _ (by simp only [List.mem_cons, List.mem_append]; exact .inr (.inr (.inr (.inl hb))))
          · exact ⟨.inr (by omega), hr.lt _ (by simp)⟩
        · obtain ⟨y, hy, rfl⟩ := List.mem_map.1 e
          exact hlX _ (by simp only [List.mem_cons, List.mem_append]; exact .inr (.inr (.inr (.inl (List.mem_map.2 ⟨y, (List.mem_filter.1 hy).1, rfl⟩)))))
        · obtain ⟨h10, h11⟩ := h9 k' e
          rcases h10 with h10 | h10
          · exact hlX _ (by simp [h10])
          · exact ⟨.inr h10, by omega⟩
      · exact hLV.trans hXW (fun _ _ h => h) (fun b' hb' h => by
          simp only [List.mem_cons, List.mem_append, Option.mem_toList, List.not_mem_nil, or_false] at h ⊢
          rcases h with h | h | h | h | h
          · exact .inl h
          · exact .inr (.inl h)
          · exact .inr (.inr h)
          · have := hLb b' h; omega
          · have := (World.ownsRow.lt HRO.out b' h).1; omega)
      · simp only [List.map_cons, List.mem_cons] at hb'
        rcases hb' with e | e
        · subst e
          rcases hb with hb | hb
          · exact hLb _ hb
          · have := hLV.size; omega
        · obtain ⟨y, hy, rfl⟩ := List.mem_map.1 e
          exact hLb _ (List.mem_map.2 ⟨y, (List.mem_filter.1 hy).1, rfl⟩))
    have hLVs := hLV.size
    clear hLV hLBX hrow hrec hsnd hLb hpx hrx hob hg hxm hps hps2 hpsl hSD hRBX hrb hLBn hRBn hgn hgL hRL hrLB hS0 hEb hLBl hRBl hgl hgrb
    gi_wp2_with (fail)
    refine wpIn_round_last (S := (fun W => W.cell? ⟨LB, 0, none⟩ = some (.slice q k cap) ∧ W.cell? ⟨RB, 0, none⟩ = some (.map (some mb)) ∧ W.cell? ⟨RB, 1, none⟩ = some (.pointer (some ⟨e0, 0, none⟩)) ∧ W.cell? ⟨g, 0, none⟩ = some (.int .i64 x))) (by kernel_rfl) (by kernel_rfl) (fun ⟨_, _, h⟩ => h) (HSO.out _ (Ext.refl X).drew) (fun hHeld => ?_)
    refine tkL (some 13) 0 ?vs1 rfl (by kernel_rfl) (by kernel_rfl) (fun _ _ _ h => h) (Or.inl ⟨by rfl, ?hys1⟩) (by assumption) ?rs1
    case hys1 => intro w hSw; (try dsimp only at hSw); go_simp; first | done | with_reducible rfl
    case' rs1 => try simp only [Act.put, List.setIfInBounds_toArray, List.set_cons_zero, List.set_cons_succ]
    refine tkL (some 14) 1 ?vs2 rfl (by kernel_rfl) (by kernel_rfl) (fun _ _ _ h => h) (Or.inl ⟨by rfl, ?hys2⟩) (by assumption) ?rs2
    case hys2 => intro w hSw; (try dsimp only at hSw); go_simp; first | done | with_reducible rfl
    case' rs2 => try simp only [Act.put, List.setIfInBounds_toArray, List.set_cons_zero, List.set_cons_succ]
    refine tkL (some 15) 2 ?vs3 rfl (by kernel_rfl) (by kernel_rfl) (fun _ _ _ h => h) (Or.inl ⟨by rfl, ?hys3⟩) (by assumption) ?rs3
    case hys3 => intro w hSw; (try dsimp only at hSw); go_simp; first | done | with_reducible rfl
    case' rs3 => try simp only [Act.put, List.setIfInBounds_toArray, List.set_cons_zero, List.set_cons_succ]
    refine tkL (some 16) 3 ?vs4 rfl (by kernel_rfl) (by kernel_rfl) (fun _ _ _ h => h) (Or.inl ⟨by rfl, ?hys4⟩) (by assumption) ?rs4
    case hys4 => intro w hSw; (try dsimp only at hSw); go_simp; first | done | with_reducible rfl
    case' rs4 => try simp only [Act.put, List.setIfInBounds_toArray, List.set_cons_zero, List.set_cons_succ]
    refine oneL (i := 4) rfl (by kernel_rfl) (fun K9 hK => ?_)
    (go_simp; refine (since_any mb e0 nM L x _ (HREC.out.ext (Ext.refl X).drew) hxi hL1).mono ?_; rintro e v4 ⟨rfl, hE4⟩; have EX : Ext X v4 := (Ext.refl X).drew.trans hE4)
    refine hK.out _ _ (HSO.out _ EX) (fun hHs5 => ?_)
    clear hK K9
    try simp only [Act.put, List.setIfInBounds_toArray, List.set_cons_zero, List.set_cons_succ]
    refine oneL (i := 5) rfl (by kernel_rfl) (fun K9 hK => ?_)
    go_simp
    refine hK.out _ _ (HSO.out _ (EX.trans ((Ext.refl v4).alloc _))) (fun hHs6 => ?_)
    clear hK K9
    try simp only [Act.put, List.setIfInBounds_toArray, List.set_cons_zero, List.set_cons_succ]
    refine oneL (i := 6) rfl (by kernel_rfl) (fun K9 hK => ?_)
    (have EA : Ext v4 (v4.alloc (.cells #[.int .i64 (sdV x (L.map (fun x => x.2)))] 3)) := (Ext.refl v4).alloc _; have EXA := EX.trans EA; have ho := ownsRow_ext HRO.out EXA; refine step_append_at _ rfl (.tmp 13) (.tmp 18) 22 rfl wb.heap.size 3 i0 (.int .i64 0) 1 8 Try.underlying22 hi hz0 hz1 hz2 rfl (by decide) (.slice q k cap) k _ rfl ho ⟨v4.heap.size, 0, none⟩ 1 1 [.int .i64 (sdV x (L.map (fun x => x.2)))] rfl rfl (one_cell rfl) (by intro u hu; simp at hu; subst hu; rfl) (by unfold maxLen; omega) (by omega) (by have := EXA.size_le; omega) ?_; intro v' w7 hown7 hgr7 hnil7 hat7; obtain ⟨q', cap', rfl⟩ := own_shape hown7 (by omega); have hS7 := HSO7.out _ _ EXA hgr7; have cP7 := hS7.1; have fP7 := HFZ7.out _ _ EXA hgr7)
    refine hK.out _ _ hS7 (fun hHs7 => ?_)
    clear hK K9
    try simp only [Act.put, List.setIfInBounds_toArray, List.set_cons_zero, List.set_cons_succ]
    refine lastL (i := 7) rfl (by kernel_rfl) (by kernel_rfl) (fun K9 hK => ?_)
    go_simp
    refine hK.out _ _ ?_
    clear hK K9
    try simp only [Act.put, List.setIfInBounds_toArray, List.set_cons_zero, List.set_cons_succ]
    have hst := HSTEP.out _ _ _ _ EXA hgr7 hown7 hat7
    obtain ⟨W8, hW8⟩ : ∃ W8, w7.setCell ⟨LB, 0, none⟩ (.slice q' (k + 1) cap') = W8 := ⟨_, rfl⟩
    rw [hW8] at hst ⊢
    have HST := Lib.hid hst
    obtain ⟨-, -, -, -, b1, b2, b3, b4, -⟩ := hst
    clear hW8 ho hown7 hgr7 hnil7 hat7 hHeld hS7 cP7 fP7 EX EA EXA hE4
    gi_wp2_with (fail)
    refine ⟨trivial, ?_⟩
    refine CallsIn.mono (F := Fence.wide.inRound l2) (callsIn_wide.2 (hold_any mb e0 nM L x nx W8 HST.out.1 hxi (by omega))) ?_
    rintro e W9 ⟨b, rfl, hrec9, hbl, hlv9⟩
    have hfin := HFIN.out _ _ _ _ _ HST.out hrec9 hbl hlv9
    gi_wp2
    exact hfin

  case done =>
    rintro E ow X hE6 hEn ⟨L, nM, q, k, cap, rfl, hLV, hLBX, hk, hrow, hrec, hnM, hsnd, hLb⟩ hob hv6 hz hdf
    have hul : (usL xs (nxL xs n)).length = n := by rw [usL_len (by rw [nxL_len]), HN.out]
    rw [hul] at hk
    subst hk
    rw [usL_fst (by rw [nxL_len])] at hrow
    have EX := Lib.hid (hLV.ext0 HEb.out (fun b hb h => by have := HG0.out; simp at h; omega))
    have HRX := Lib.hid hrow; have XE := Lib.hid hdf
    have HEE : Hid (g0 ≤ E ∧ ∀ b, (Value.slice q n cap).ownBlock = some b → b ≠ E) := Lib.hid ⟨by omega, fun b hb e => hEn (by subst e; simp [hb])⟩
    obtain ⟨la0, -⟩ := blk1 hLBX
    clear hLV hLBX hrow hrec hnM hsnd hLb hob hv6 hz hdf hE6 hEn
    gi_wp2_with (fail)
    refine leaves_marks2 [E] _ (fun E' h => by simp at h; subst h; exact XE.out) (by simp) (fun W' hW' => ?_)
    refine ⟨.slice q n cap, by simp [results, Try.results14, go_sem], ⟨_, rfl, ?_⟩, hW'.ext0 EX.out (fun b hb h => by have := HEE.out.1; have := HG0.out; simp at h; omega)⟩
    rw [HR.out]
    exact IntsOwn.weak (row_lv HRX.out hW' (fun b hb h => by simp at h; exact HEE.out.2 b hb h)) (by have := HEb.out.size_le; omega)
  case stop =>
    rintro E cd qq ow X hE6 hEn hq h hob hv6 hz hdf
    exact h.elim
end Go.Proofs.Ytggpjapmhakklaa
