/- BoxNest, the model's. | BoxNest, the model's: the walk. -/
import Derived.Test.YtkcbnkgegopkhaaP1
import Derived.Test.YtkcbnkgegopkhaaA17
namespace Go.Proofs.Ytkcbnkgegopkhaa
open Go.RowKit

theorem LoopsF.nil' {B g c : Nat} {w : World} (h : w.ownsRow B 82 2 (.slice (some ⟨g, 0, none⟩) 0 c) 0 []) : LoopsF B w (.slice (some ⟨g, 0, none⟩) 0 c) [] [g] := ⟨[], [], h, rfl, rfl, by simp, fun i x hi => by simp at hi⟩
theorem BoxRet.no' {B g c : Nat} {w' : World} {ns : List Int} (h : boxB ns = false) (ho : w'.ownsRow B 82 2 (.slice (some ⟨g, 0, none⟩) 0 c) 0 []) : BoxRet B w' (.returned (.tuple #[.slice (some ⟨g, 0, none⟩) 0 c, .bool false])) ns :=
  ⟨some ⟨g, 0, none⟩, c, [g], by rw [boxL_no h, h]; rfl, by rw [boxL_no h]; exact LoopsF.nil' ho, fun y hy => by simp at hy; rw [hy]; exact ho.lt g rfl⟩

theorem aff_row {B a : Nat} {w : World} {u0 u1 : Value} (h : w.heap[a]? = some (.cells #[u0, u1] 64 (0, 0))) (hB : B ≤ a) : w.ownsRow B 64 2 (.slice (some ⟨a, 0, none⟩) 1 1) 1 [u0, u1] :=
  ⟨rfl, .inr ⟨a, 1, _, rfl, hB, h, Nat.le_refl _, by unfold maxLen; omega, rfl, rfl⟩⟩

/-- Two sides, in whatever order they were laid. -/
theorem boxStep {B N a b g1 g2 c1 c2 : Nat} {w : World} {x : Int} (ha : w.heap[a]? = some (.cells #[.slice (some ⟨g1, 0, none⟩) 4 c1, .int .i64 0] 64 (0, 0))) (hb : w.heap[b]? = some (.cells #[.slice (some ⟨g2, 0, none⟩) 4 c2, .int .i64 x] 64 (0, 0)))
    (h1 : IntsOwn N w (.slice (some ⟨g1, 0, none⟩) 4 c1) [0, 0, 0, 0]) (h2 : IntsOwn N w (.slice (some ⟨g2, 0, none⟩) 4 c2) [0, 0, 0, 0]) (hab : a ≠ b) (hg : g1 ≠ g2) (hBN : B ≤ N) (haN : N ≤ a) (hbN : N ≤ b) :
    LoopF B w (.slice (some ⟨a, 0, none⟩) 1 1) (.slice (some ⟨b, 0, none⟩) 1 1) (boxLp x) ([a] ++ [g1] ++ ([b] ++ [g2])) ∧ ([a] ++ [g1] ++ ([b] ++ [g2])).Nodup ∧ (∀ y ∈ [a] ++ [g1] ++ ([b] ++ [g2]), N ≤ y ∧ y < w.heap.size) := by
  have n1 : g1 ≠ a := own_ne h1 ha
  have n2 : g1 ≠ b := own_ne h1 hb
  have n3 : g2 ≠ a := own_ne h2 ha
  have n4 : g2 ≠ b := own_ne h2 hb
  have hnd : ([a] ++ [g1] ++ ([b] ++ [g2])).Nodup := by
    simp only [List.cons_append, List.nil_append, List.nodup_cons, List.mem_cons, List.not_mem_nil, or_false, not_or, not_false_eq_true, List.nodup_nil, and_true]
    exact ⟨⟨fun e => n1 e.symm, hab, fun e => n3 e.symm⟩, ⟨n2, hg⟩, fun e => n4 e.symm⟩
  refine ⟨⟨[a] ++ [g1], [b] ++ [g2], rfl, hnd, ?_, ?_⟩, hnd, ?_⟩
  · exact AffsF.one (aff_row ha (by omega)) ⟨h1.weak hBN, by simp [Value.ownBlock]⟩ (by simp) (by simp; exact fun e => n1 e.symm)
  · exact AffsF.one (aff_row hb (by omega)) ⟨h2.weak hBN, by simp [Value.ownBlock]⟩ (by simp) (by simp; exact fun e => n4 e.symm)
  · intro y hy
    simp at hy
    rcases hy with rfl | rfl | rfl | rfl
    · exact ⟨haN, lt_of_block ha⟩
    · exact h1.lt _ rfl
    · exact ⟨hbN, lt_of_block hb⟩
    · exact h2.lt _ rfl
end Go.Proofs.Ytkcbnkgegopkhaa

namespace Go.Proofs.Ytkcbnkgegopkhaa
open Go.RowKit

theorem underSliceLoop : Try.prog.underlying 27 = some (.slice 82) := Try.underlying27
theorem lp_cells {L : Nat} {w : World} {u0 u1 : Value} {t : TypeId} (hL : L = w.heap.size) : ∀ j u, [u0, u1][j]? = some u → (w.alloc (.cells #[u0, u1] t)).cell? ((⟨L, 0, none⟩ : Addr).add j) = some u := by
  subst hL
  intro q u hq
  match q, hq with
  | 0, hq => simp at hq; subst hq; simp [Addr.add]
  | 1, hq => simp at hq; subst hq; simp [Addr.add, go_sem]

theorem boxPush {B N k a b g1 g2 c1 c2 gv cv gn cn : Nat} {w w4 : World} {x : Int} {xs : List Lp} {F : List Nat} {vs : List Value} {Fs : List (List Nat)}
    (hxn' : xs.length = k) (hl : Fs.length = xs.length) (hF : F = (Value.slice (some ⟨gv, 0, none⟩) k cv).ownBlock.toList ++ Fs.flatten) (hn : F.Nodup)
    (he : ∀ i y, xs[i]? = some y → ∃ u0 u1 Fi, vs[i * 2]? = some u0 ∧ vs[i * 2 + 1]? = some u1 ∧ Fs[i]? = some Fi ∧ LoopF B w u0 u1 y Fi) (hvl : vs.length = k * 2)
    (ho' : w4.ownsRow B 82 2 (.slice (some ⟨gn, 0, none⟩) (k + 1) cn) (k + 1) (vs ++ [.slice (some ⟨a, 0, none⟩) 1 1, .slice (some ⟨b, 0, none⟩) 1 1])) (hg : w.grownBy w4 (Value.slice (some ⟨gv, 0, none⟩) k cv).ownBlock) (hat : (Value.slice (some ⟨gv, 0, none⟩) k cv).ownBlock = some gn ∨ gn = w.heap.size)
    (ha : w.heap[a]? = some (.cells #[.slice (some ⟨g1, 0, none⟩) 4 c1, .int .i64 0] 64 (0, 0))) (hb : w.heap[b]? = some (.cells #[.slice (some ⟨g2, 0, none⟩) 4 c2, .int .i64 x] 64 (0, 0)))
    (h1 : IntsOwn N w (.slice (some ⟨g1, 0, none⟩) 4 c1) [0, 0, 0, 0]) (h2 : IntsOwn N w (.slice (some ⟨g2, 0, none⟩) 4 c2) [0, 0, 0, 0]) (hab : a ≠ b) (hg12 : g1 ≠ g2) (hBN : B ≤ N) (haN : N ≤ a) (hbN : N ≤ b) (hFN : ∀ y ∈ F, y < N) :
    ∃ F', LoopsF B w4 (.slice (some ⟨gn, 0, none⟩) (k + 1) cn) (xs ++ [boxLp x]) F' ∧ ∀ y ∈ F', y < w4.heap.size := by
  obtain ⟨hL, hnd, hr⟩ := boxStep ha hb h1 h2 hab hg12 hBN haN hbN
  refine PairsF.push (T := 82) (R := LoopF) (fun h hk hd => LoopF.kp h hk hd) hxn' hl hF hn he hvl ho' hg ?_ hL hnd ?_ ?_ ?_
  · rcases hat with e | e
    · exact .inl e.symm
    · exact .inr (by rw [e]; rfl)
  · intro y hy hyF
    have := (hr y hy).1
    have := hFN y hyF
    omega
  · intro y hy
    have := hFN y hy
    have := lt_of_block ha
    omega
  · exact fun y hy => (hr y hy).2

set_option maxRecDepth 100000 in
set_option maxHeartbeats 4000000 in
theorem specBoxNest_any (s : Value) (ns : List Int) (w : World) (hs : IntsAt w s ns) :
    Calls Try.prog 30 #[s] w fun e w' => BoxRet w.heap.size w' e ns ∧ Ext w w' := by
  obtain ⟨i0, hi, hz0, hz1, hz2⟩ := info_parts infoLoop
  have HS := Lib.hid hs; clear hs
  obtain ⟨p, c, rfl, hm, hc⟩ := HS.out.get
  generalize hlen : ns.length = n at *
  have HL := Lib.hid hlen; have HC := Lib.hid hc; clear hlen hc
  have HO0 : Hid ((w.alloc (.cells #[] 82)).ownsRow w.heap.size 82 2 (.slice (some ⟨w.heap.size, 0, none⟩) 0 0) 0 []) := Lib.hid (World.ownsRow_made w #[] 0 (Nat.le_refl _) (Nat.zero_le _) rfl)
  by_cases hn4 : 4 < n
  · have hd : decide ((4 : Int) < n) = true := by simp; omega
    have hno : boxB ns = false := by
      have : ¬ ns.length ≤ 4 := by rw [HL.out]; omega
      simp [boxB, this]
    have HNO := Lib.hid hno; clear hno
    go_enter Try.func30, Try.ntmps30
    go_wp2
    exact bodyPost_ret (v := .tuple #[.slice (some ⟨w.heap.size, 0, none⟩) 0 0, .bool false]) (by simp [results, Try.results30, go_sem]) rfl ⟨BoxRet.no' HNO.out HO0.out, (Ext.refl w).alloc _⟩
  · have hd : decide ((4 : Int) < n) = false := by simp; omega
    go_enter Try.func30, Try.ntmps30
    go_wp2
    go_loopw [4, 5] (fun v i wr => ∃ k : Nat, k ≤ n ∧ i = .int .i64 k ∧ (ns.take k).all okS = true ∧ (∃ gv cv F, v = .slice (some ⟨gv, 0, none⟩) k cv ∧ LoopsF w.heap.size wr (.slice (some ⟨gv, 0, none⟩) k cv) ((ns.take k).map boxLp) F ∧ ∀ y ∈ F, w.heap.size ≤ y ∧ y < wr.heap.size) ∧ Ext w wr) (fun _ i _ => n - (intOf i).toNat)
    case atStart => exact ⟨0, by omega, rfl, by simp, ⟨_, _, [w.heap.size], rfl, by simpa using LoopsF.nil' HO0.out, fun y hy => by simp at hy; subst hy; exact ⟨Nat.le_refl _, by simp⟩⟩, (Ext.refl w).alloc _⟩
    case round =>
      obtain ⟨k, hk, rfl, hall, ⟨gv, cv, F, rfl, hF, hFr⟩, hE⟩ := hrel
      have htl : ((ns.take k).map boxLp).length = k := by rw [List.length_map, List.length_take, HL.out]; omega
      have HTL := Lib.hid htl; clear htl
      have HA := Lib.hid hall; have HF := Lib.hid hF; have HFr := Lib.hid hFr; clear hall hF hFr
      by_cases hlt : k < n
      · obtain ⟨x, hx⟩ := get_some (xs := ns) (k := k) (by rw [HL.out]; exact hlt)
        obtain ⟨b, off, rfl, hck, hbl⟩ := HC.out k x hx
        have hck' := (hE.cells.1 _ (off + k) hbl).trans hck
        have HX := Lib.hid hx; have HCK := Lib.hid hck; clear hx hck
        have hno1 : okS x = false → boxB ns = false := fun h => boxB_no HX.out h
        have HNO1 := Lib.hid hno1; clear hno1
        have HON : Hid ((wr.alloc (.cells #[] 82)).ownsRow w.heap.size 82 2 (.slice (some ⟨wr.heap.size, 0, none⟩) 0 0) 0 []) := Lib.hid (World.ownsRow_made wr #[] 0 hE.size_le (Nat.zero_le _) rfl)
        by_cases h0 : x < 0
        · have hd0 : decide (x < 0) = true := by simpa using h0
          have HE := Lib.hid hE; have H0 := Lib.hid h0; clear hE h0
          go_wp2
          exact bodyPost_ret (v := .tuple #[.slice (some ⟨wr.heap.size, 0, none⟩) 0 0, .bool false]) (by simp [results, Try.results30, go_sem]) rfl ⟨BoxRet.no' (HNO1.out (by have := H0.out; simp [okS]; omega)) HON.out, HE.out.alloc _⟩
        · have hd0 : decide (x < 0) = false := by simpa using h0
          by_cases h9 : 99 < x
          · have hd9 : decide (99 < x) = true := by simpa using h9
            have HE := Lib.hid hE; have H9 := Lib.hid h9; clear hE h0 h9
            go_wp2
            exact bodyPost_ret (v := .tuple #[.slice (some ⟨wr.heap.size, 0, none⟩) 0 0, .bool false]) (by simp [results, Try.results30, go_sem]) rfl ⟨BoxRet.no' (HNO1.out (by have := H9.out; simp [okS]; omega)) HON.out, HE.out.alloc _⟩
          · have hd9 : decide (99 < x) = false := by simpa using h9
            have hokx : okS x = true := by simp [okS]; omega
            have HOK := Lib.hid hokx
            have hk0 : (0 : Int) ≤ (k : Int) := by omega
            have hk1 : (k : Int) < (n : Int) := by omega
            have hwr := hE.size_le
            have hFN : ∀ y ∈ F, y < wr.heap.size := fun y hy => (HFr.out y hy).2
            have HFN := Lib.hid hFN
            have HE := Lib.hid hE
            clear hE h0 h9 hokx HON HNO1 HO0 hFN
            go_wp2_with (fail)
            go_region_held3 (fun W' => W'.cell? ⟨b, off + k, none⟩ = some (.int .i64 x))
              (first
                | exact hck'
                | exact g1.keep hck'
                | exact (g1.alloc _).keep hck'
                | exact g2.keep hck'
                | exact (g2.alloc _).keep hck'
                | exact ((g2.alloc _).alloc _).keep hck'
                | exact (((g2.alloc _).alloc _).alloc _).keep hck'
                | exact hEw4.keep HCK.out
                | fail)
              (first
                | (go_at_call 68; (with_reducible refine (l1Zero_any _).mono ?_); rintro e w1 ⟨p1, c1, rfl, hv1, hE1⟩; obtain ⟨gc1, rfl, hg11, hg12⟩ := own4 hv1; have g1 : Ext wr w1 := (Ext.refl wr).drew.trans hE1; have hwr1 : wr.heap.size ≤ w1.heap.size := g1.size_le)
                | (go_at_call 69; (with_reducible refine (l1Const_any x _).mono ?_); rintro e w2 ⟨p2, c2, rfl, hv2, hE2⟩; obtain ⟨gc2, rfl, hg21, hg22⟩ := own4 hv2; have g2 : Ext wr w2 := (by first | exact g1.trans hE2 | exact (g1.alloc _).trans hE2); have hw12 : w1.heap.size ≤ w2.heap.size := (by have h := hE2.size_le; (try simp only [World.size_alloc] at h); omega); have hg1w : Ext w1 w2 := (by first | exact hE2 | exact ((Ext.refl w1).alloc _).trans hE2); have hgc21 : w1.heap.size ≤ gc2 := (by (try simp only [World.size_alloc] at hg21); omega); have hN2 : IntsOwn wr.heap.size w2 (.slice (some ⟨gc2, 0, none⟩) 4 c2) [0, 0, 0, 0] := hv2.weak (by (try simp only [World.size_alloc]); omega))
                | (have GW : Ext wr ((w2.alloc (.cells #[.slice (some ⟨gc2, 0, none⟩) 4 c2, .int .i64 x] 64)).alloc (.cells #[.slice (some ⟨w1.heap.size, 0, none⟩) 1 1, .slice (some ⟨w2.heap.size, 0, none⟩) 1 1] 82)) := ((g2.alloc (.cells #[.slice (some ⟨gc2, 0, none⟩) 4 c2, .int .i64 x] 64)).alloc (.cells #[.slice (some ⟨w1.heap.size, 0, none⟩) 1 1, .slice (some ⟨w2.heap.size, 0, none⟩) 1 1] 82)); obtain ⟨vs, Fs, ho, hl, hFe, hFn, he⟩ := LoopsF.kp HF.out (Kp.of_ext (F := []) GW) (by simp); rw [HTL.out] at ho; have hvl := ho.1; refine step_append_lies _ rfl (.tmp 30) (.tmp 40) 27 rfl w.heap.size 82 i0 (.agg #[.slice none 0 0, .slice none 0 0]) 2 48 underSliceLoop hi hz0 hz1 hz2 rfl (by decide) (.slice (some ⟨gv, 0, none⟩) k cv) k vs rfl ho ⟨w2.heap.size + 1, 0, none⟩ 1 1 [.slice (some ⟨w1.heap.size, 0, none⟩) 1 1, .slice (some ⟨w2.heap.size, 0, none⟩) 1 1] rfl rfl (lp_cells (by simp)) (by intro u hu; simp at hu; rcases hu with rfl | rfl <;> rfl) (by omega) (by unfold maxLen; omega) (by omega) (by simp <;> omega) _ rfl ?_; intro gn cn w4 hown' hgrow hgeq hltg; have hEw4 : Ext w w4 := (HE.out.trans GW).grown hgrow (fun b hb => (ho.lt b hb).1); have E2W : Ext w2 ((w2.alloc (.cells #[.slice (some ⟨gc2, 0, none⟩) 4 c2, .int .i64 x] 64)).alloc (.cells #[.slice (some ⟨w1.heap.size, 0, none⟩) 1 1, .slice (some ⟨w2.heap.size, 0, none⟩) 1 1] 82)) := (((Ext.refl w2).alloc (.cells #[.slice (some ⟨gc2, 0, none⟩) 4 c2, .int .i64 x] 64)).alloc (.cells #[.slice (some ⟨w1.heap.size, 0, none⟩) 1 1, .slice (some ⟨w2.heap.size, 0, none⟩) 1 1] 82)); have hres := boxPush (N := wr.heap.size) HTL.out hl hFe hFn he hvl hown' hgrow hgeq (E2W.blk (hE2.blk (blk_at rfl))) (blk_old (blk_at rfl)) ((hv1.weak (B' := wr.heap.size) (by simp <;> omega)).ext (hg1w.trans E2W)) (hN2.ext E2W) (by omega) (by omega) (by omega) (by omega) (by omega) HFN.out)
                | (have GW : Ext wr (((w2.alloc (.cells #[.slice (some ⟨gc1, 0, none⟩) 4 c1, .int .i64 0] 64)).alloc (.cells #[.slice (some ⟨gc2, 0, none⟩) 4 c2, .int .i64 x] 64)).alloc (.cells #[.slice (some ⟨w2.heap.size, 0, none⟩) 1 1, .slice (some ⟨w2.heap.size + 1, 0, none⟩) 1 1] 82)) := (((g2.alloc (.cells #[.slice (some ⟨gc1, 0, none⟩) 4 c1, .int .i64 0] 64)).alloc (.cells #[.slice (some ⟨gc2, 0, none⟩) 4 c2, .int .i64 x] 64)).alloc (.cells #[.slice (some ⟨w2.heap.size, 0, none⟩) 1 1, .slice (some ⟨w2.heap.size + 1, 0, none⟩) 1 1] 82)); obtain ⟨vs, Fs, ho, hl, hFe, hFn, he⟩ := LoopsF.kp HF.out (Kp.of_ext (F := []) GW) (by simp); rw [HTL.out] at ho; have hvl := ho.1; refine step_append_lies _ rfl (.tmp 30) (.tmp 40) 27 rfl w.heap.size 82 i0 (.agg #[.slice none 0 0, .slice none 0 0]) 2 48 underSliceLoop hi hz0 hz1 hz2 rfl (by decide) (.slice (some ⟨gv, 0, none⟩) k cv) k vs rfl ho ⟨w2.heap.size + 1 + 1, 0, none⟩ 1 1 [.slice (some ⟨w2.heap.size, 0, none⟩) 1 1, .slice (some ⟨w2.heap.size + 1, 0, none⟩) 1 1] rfl rfl (lp_cells (by simp)) (by intro u hu; simp at hu; rcases hu with rfl | rfl <;> rfl) (by omega) (by unfold maxLen; omega) (by omega) (by simp <;> omega) _ rfl ?_; intro gn cn w4 hown' hgrow hgeq hltg; have hEw4 : Ext w w4 := (HE.out.trans GW).grown hgrow (fun b hb => (ho.lt b hb).1); have E2W : Ext w2 (((w2.alloc (.cells #[.slice (some ⟨gc1, 0, none⟩) 4 c1, .int .i64 0] 64)).alloc (.cells #[.slice (some ⟨gc2, 0, none⟩) 4 c2, .int .i64 x] 64)).alloc (.cells #[.slice (some ⟨w2.heap.size, 0, none⟩) 1 1, .slice (some ⟨w2.heap.size + 1, 0, none⟩) 1 1] 82)) := ((((Ext.refl w2).alloc (.cells #[.slice (some ⟨gc1, 0, none⟩) 4 c1, .int .i64 0] 64)).alloc (.cells #[.slice (some ⟨gc2, 0, none⟩) 4 c2, .int .i64 x] 64)).alloc (.cells #[.slice (some ⟨w2.heap.size, 0, none⟩) 1 1, .slice (some ⟨w2.heap.size + 1, 0, none⟩) 1 1] 82)); have hres := boxPush (N := wr.heap.size) HTL.out hl hFe hFn he hvl hown' hgrow hgeq (blk_old (blk_old (blk_at rfl))) (blk_old (blk_at (by simp))) ((hv1.weak (B' := wr.heap.size) (by simp <;> omega)).ext (hg1w.trans E2W)) (hN2.ext E2W) (by omega) (by omega) (by omega) (by omega) (by omega) HFN.out)
                | (have GW : Ext wr (((w2.alloc (.cells #[.slice (some ⟨gc2, 0, none⟩) 4 c2, .int .i64 x] 64)).alloc (.cells #[.slice (some ⟨gc1, 0, none⟩) 4 c1, .int .i64 0] 64)).alloc (.cells #[.slice (some ⟨w2.heap.size + 1, 0, none⟩) 1 1, .slice (some ⟨w2.heap.size, 0, none⟩) 1 1] 82)) := (((g2.alloc (.cells #[.slice (some ⟨gc2, 0, none⟩) 4 c2, .int .i64 x] 64)).alloc (.cells #[.slice (some ⟨gc1, 0, none⟩) 4 c1, .int .i64 0] 64)).alloc (.cells #[.slice (some ⟨w2.heap.size + 1, 0, none⟩) 1 1, .slice (some ⟨w2.heap.size, 0, none⟩) 1 1] 82)); obtain ⟨vs, Fs, ho, hl, hFe, hFn, he⟩ := LoopsF.kp HF.out (Kp.of_ext (F := []) GW) (by simp); rw [HTL.out] at ho; have hvl := ho.1; refine step_append_lies _ rfl (.tmp 30) (.tmp 40) 27 rfl w.heap.size 82 i0 (.agg #[.slice none 0 0, .slice none 0 0]) 2 48 underSliceLoop hi hz0 hz1 hz2 rfl (by decide) (.slice (some ⟨gv, 0, none⟩) k cv) k vs rfl ho ⟨w2.heap.size + 1 + 1, 0, none⟩ 1 1 [.slice (some ⟨w2.heap.size + 1, 0, none⟩) 1 1, .slice (some ⟨w2.heap.size, 0, none⟩) 1 1] rfl rfl (lp_cells (by simp)) (by intro u hu; simp at hu; rcases hu with rfl | rfl <;> rfl) (by omega) (by unfold maxLen; omega) (by omega) (by simp <;> omega) _ rfl ?_; intro gn cn w4 hown' hgrow hgeq hltg; have hEw4 : Ext w w4 := (HE.out.trans GW).grown hgrow (fun b hb => (ho.lt b hb).1); have E2W : Ext w2 (((w2.alloc (.cells #[.slice (some ⟨gc2, 0, none⟩) 4 c2, .int .i64 x] 64)).alloc (.cells #[.slice (some ⟨gc1, 0, none⟩) 4 c1, .int .i64 0] 64)).alloc (.cells #[.slice (some ⟨w2.heap.size + 1, 0, none⟩) 1 1, .slice (some ⟨w2.heap.size, 0, none⟩) 1 1] 82)) := ((((Ext.refl w2).alloc (.cells #[.slice (some ⟨gc2, 0, none⟩) 4 c2, .int .i64 x] 64)).alloc (.cells #[.slice (some ⟨gc1, 0, none⟩) 4 c1, .int .i64 0] 64)).alloc (.cells #[.slice (some ⟨w2.heap.size + 1, 0, none⟩) 1 1, .slice (some ⟨w2.heap.size, 0, none⟩) 1 1] 82)); have hres := boxPush (N := wr.heap.size) HTL.out hl hFe hFn he hvl hown' hgrow hgeq (blk_old (blk_at (by simp))) (blk_old (blk_old (blk_at rfl))) ((hv1.weak (B' := wr.heap.size) (by simp <;> omega)).ext (hg1w.trans E2W)) (hN2.ext E2W) (by omega) (by omega) (by omega) (by omega) (by omega) HFN.out)
                | fail)
            all_goals
              obtain ⟨F', hF', hF'lt⟩ := hres
              have htk : (ns.take k).map boxLp ++ [boxLp x] = (ns.take (k + 1)).map boxLp := by rw [take_next HX.out, List.map_append]; rfl
              rw [htk] at hF'
              have hge : ∀ y ∈ F', w.heap.size ≤ y := fun y hy => LoopsF.ge hF' y hy
              have HF4 := Lib.hid hF'; have HLT := Lib.hid hF'lt; have HE4 := Lib.hid hEw4; have HGE := Lib.hid hge
              clear hF' hF'lt hEw4 htk hge
              go_wp2
              go_roundw
              case rel => exact ⟨k + 1, by omega, by go_num, all_take_next HX.out HA.out HOK.out, ⟨_, _, F', rfl, HF4.out, fun y hy => ⟨HGE.out y hy, HLT.out y hy⟩⟩, HE4.out⟩
              case measure => simp [intOf]; omega
      · have e : k = n := by omega
        subst e
        have hyes : boxB ns = true := by
          have h := all_take_end (xs := ns) (k := k) (by rw [HL.out]; omega) HA.out
          have h4 : k ≤ 4 := by omega
          simp [boxB, HL.out, h4, h]
        have hF := HF.out
        rw [List.take_of_length_le (by rw [HL.out]; omega), ← boxL_yes hyes] at hF
        have hlb : (boxL ns).length = k := by rw [boxL_yes hyes, List.length_map]; exact HL.out
        have HFF := Lib.hid hF; have HY := Lib.hid hyes; have HLB := Lib.hid hlb; have HE := Lib.hid hE; clear hF hyes hlb hE
        go_wp2
        exact bodyPost_ret (v := .tuple #[.slice (some ⟨gv, 0, none⟩) k cv, .bool true]) (by simp [results, Try.results30, go_sem]) rfl ⟨⟨_, cv, F, by rw [HLB.out, HY.out], by rw [HLB.out]; exact HFF.out, HFr.out⟩, HE.out⟩
end Go.Proofs.Ytkcbnkgegopkhaa
