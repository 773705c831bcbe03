/- Copies of lists of expressions and nests, with the blocks that they are made of. No statement is proved here. | Sizes of lists of expressions and nests, exactly. No statement is proved here. -/
import Derived.Test.YtkcbnkgegopkhaaP1
import Derived.Test.YtkcbnkgegopkhaaN3
import Derived.Test.YtkcbnkgegopkhaaN1
namespace Go.Proofs.Ytkcbnkgegopkhaa
open Go.RowKit

theorem PairsF.lt {α : Type} {T : TypeId} {R : Nat → World → Value → Value → α → List Nat → Prop} (hR : ∀ {B w u0 u1 x F}, R B w u0 u1 x F → ∀ y ∈ F, B ≤ y ∧ y < w.heap.size) {B : Nat} {w : World} {v : Value} {xs : List α} {F : List Nat} (h : PairsF T R B w v xs F) : ∀ y ∈ F, B ≤ y ∧ y < w.heap.size := by
  obtain ⟨vs, Fs, ho, hl, hF, hn, he⟩ := h
  intro y hy
  rw [hF] at hy
  rcases List.mem_append.1 hy with h | h
  · rw [Option.mem_toList] at h
    exact ho.lt y h
  · obtain ⟨Fi, hm, hy⟩ := List.mem_flatten.1 h
    obtain ⟨i, hi⟩ := List.mem_iff_getElem?.1 hm
    obtain ⟨x, hx⟩ := get_some (xs := xs) (k := i) (by rw [← hl]; exact (List.getElem?_eq_some_iff.1 hi).1)
    obtain ⟨u0, u1, Fj, _, _, h2, h3⟩ := he i x hx
    rw [hi] at h2; cases h2
    exact hR h3 y hy
theorem AffF.lt {B : Nat} {w : World} {u0 u1 : Value} {x : Aff} {F : List Nat} (h : AffF B w u0 u1 x F) : ∀ y ∈ F, B ≤ y ∧ y < w.heap.size := h.1.lt
theorem AffsF.lt {B : Nat} {w : World} {v : Value} {xs : List Aff} {F : List Nat} (h : AffsF B w v xs F) : ∀ y ∈ F, B ≤ y ∧ y < w.heap.size := PairsF.lt (fun h => AffF.lt h) h
theorem LoopF.lt {B : Nat} {w : World} {u0 u1 : Value} {x : Lp} {F : List Nat} (h : LoopF B w u0 u1 x F) : ∀ y ∈ F, B ≤ y ∧ y < w.heap.size := by
  obtain ⟨F0, F1, rfl, _, h0, h1⟩ := h
  intro y hy
  rcases List.mem_append.1 hy with h | h
  · exact h0.lt y h
  · exact h1.lt y h
theorem LoopsF.lt {B : Nat} {w : World} {v : Value} {xs : List Lp} {F : List Nat} (h : LoopsF B w v xs F) : ∀ y ∈ F, B ≤ y ∧ y < w.heap.size := PairsF.lt (fun h => LoopF.lt h) h
theorem PairsF.setOld' {α : Type} {T : TypeId} {R : Nat → World → Value → Value → α → List Nat → Prop} (hset : ∀ {B w u0 u1 x F p}, R B w u0 u1 x F → Addr.block p < B → ∀ u, R B (w.setCell p u) u0 u1 x F) {B : Nat} {w : World} {v : Value} {xs : List α} {F : List Nat} (h : PairsF T R B w v xs F) {p : Addr} (hp : p.block < B) (u : Value) : PairsF T R B (w.setCell p u) v xs F := by
  obtain ⟨vs, Fs, ho, hl, hF, hn, he⟩ := h
  refine ⟨vs, Fs, ownsRow_setCell_below ho hp u, hl, hF, hn, fun i x hi => ?_⟩
  obtain ⟨u0, u1, Fi, h0, h1, h2, h3⟩ := he i x hi
  exact ⟨u0, u1, Fi, h0, h1, h2, hset h3 hp u⟩
theorem AffsF.setOld {B : Nat} {w : World} {v : Value} {xs : List Aff} {F : List Nat} (h : AffsF B w v xs F) {p : Addr} (hp : p.block < B) (u : Value) : AffsF B (w.setCell p u) v xs F :=
  PairsF.setOld' (fun h hp u => ⟨⟨h.1.1.setOld hp u, h.1.2⟩, h.2⟩) h hp u
theorem AffF.setOld {B : Nat} {w : World} {u0 u1 : Value} {x : Aff} {F : List Nat} (h : AffF B w u0 u1 x F) {p : Addr} (hp : p.block < B) (u : Value) : AffF B (w.setCell p u) u0 u1 x F := ⟨⟨h.1.1.setOld hp u, h.1.2⟩, h.2⟩
theorem LoopF.setOld {B : Nat} {w : World} {u0 u1 : Value} {x : Lp} {F : List Nat} (h : LoopF B w u0 u1 x F) {p : Addr} (hp : p.block < B) (u : Value) : LoopF B (w.setCell p u) u0 u1 x F := by
  obtain ⟨F0, F1, e, hn, h0, h1⟩ := h
  exact ⟨F0, F1, e, hn, h0.setOld hp u, h1.setOld hp u⟩
theorem AffF.ext {B : Nat} {w w' : World} {u0 u1 : Value} {x : Aff} {F : List Nat} (h : AffF B w u0 u1 x F) (hE : Ext w w') : AffF B w' u0 u1 x F := h.kp (Kp.of_ext (F := []) hE) (by simp)
theorem AffsF.ext {B : Nat} {w w' : World} {v : Value} {xs : List Aff} {F : List Nat} (h : AffsF B w v xs F) (hE : Ext w w') : AffsF B w' v xs F := h.kp (Kp.of_ext (F := []) hE) (by simp)
theorem LoopF.ext {B : Nat} {w w' : World} {u0 u1 : Value} {x : Lp} {F : List Nat} (h : LoopF B w u0 u1 x F) (hE : Ext w w') : LoopF B w' u0 u1 x F := h.kp (Kp.of_ext (F := []) hE) (by simp)
theorem LoopF.weak {B B' : Nat} {w : World} {u0 u1 : Value} {x : Lp} {F : List Nat} (h : LoopF B w u0 u1 x F) (hB : B' ≤ B) : LoopF B' w u0 u1 x F := by
  obtain ⟨F0, F1, e, hn, h0, h1⟩ := h
  exact ⟨F0, F1, e, hn, h0.weak hB, h1.weak hB⟩

/-- The first k elements of a row of n pairs are written, each with blocks of its own. -/
def PairRowF {α : Type} (T : TypeId) (R : Nat → World → Value → Value → α → List Nat → Prop) (B Bi g n : Nat) (xs : List α) (k : Nat) (w : World) : Prop :=
  ∃ (vs : List Value) (Fs : List (List Nat)), w.ownsRow B T 2 (.slice (some ⟨g, 0, none⟩) n n) n vs ∧ Fs.length = k ∧ Fs.flatten.Nodup ∧ (∀ y ∈ Fs.flatten, g < y ∧ y < w.heap.size) ∧
    ∀ i x, i < k → xs[i]? = some x → ∃ u0 u1 Fi, vs[i * 2]? = some u0 ∧ vs[i * 2 + 1]? = some u1 ∧ Fs[i]? = some Fi ∧ R Bi w u0 u1 x Fi
theorem PairRowF.open' {α : Type} {T : TypeId} {R : Nat → World → Value → Value → α → List Nat → Prop} {B Bi g n k : Nat} {xs : List α} {w w1 : World} (h : PairRowF T R B Bi g n xs k w) (hE : Ext w w1) (hk : k < n) :
    w1.frozen? ⟨g, k * 2, none⟩ = false ∧ w1.frozen? ⟨g, k * 2 + 1, none⟩ = false ∧ (∃ v, w1.cell? ⟨g, k * 2, none⟩ = some v) ∧ (∃ v, w1.cell? ⟨g, k * 2 + 1, none⟩ = some v) ∧ B ≤ g ∧ g < w1.heap.size := by
  obtain ⟨vs, _, ho, _⟩ := h
  have ho := ownsRow_ext ho hE
  have hl := ho.1
  have := ho.lt g rfl
  refine ⟨ho.frozenAt _, ho.frozenAt _, ?_, ?_, this.1, this.2⟩
  · rw [ho.cellAt (k * 2) (by omega)]; exact get_some (by omega)
  · rw [ho.cellAt (k * 2 + 1) (by omega)]; exact get_some (by omega)
theorem PairRowF.step {α : Type} {T : TypeId} {R : Nat → World → Value → Value → α → List Nat → Prop} (hext : ∀ {B w w' u0 u1 x F}, R B w u0 u1 x F → Ext w w' → R B w' u0 u1 x F) (hset : ∀ {B w u0 u1 x F p u}, R B w u0 u1 x F → Addr.block p < B → R B (w.setCell p u) u0 u1 x F)
    {B g n k : Nat} {xs : List α} {w w1 : World} {u0 u1 : Value} {x : α} {F : List Nat} (h : PairRowF T R B (g + 1) g n xs k w) (hE : Ext w w1) (hk : k < n) (hx : xs[k]? = some x) (hr : R (g + 1) w1 u0 u1 x F) (hF : ∀ y ∈ F, w.heap.size ≤ y ∧ y < w1.heap.size) (hnd : F.Nodup) :
    PairRowF T R B (g + 1) g n xs (k + 1) ((w1.setCell ⟨g, k * 2, none⟩ u0).setCell ⟨g, k * 2 + 1, none⟩ u1) := by
  obtain ⟨vs, Fs, ho, hfl, hfn, hfb, hv⟩ := h
  have hgl := (ho.lt g rfl).2
  have ho := ownsRow_ext ho hE
  have hl := ho.1
  have hsz : ((w1.setCell ⟨g, k * 2, none⟩ u0).setCell ⟨g, k * 2 + 1, none⟩ u1).heap.size = w1.heap.size := by simp
  refine ⟨_, Fs ++ [F], (((ho.stored (k * 2) u0).1).stored (k * 2 + 1) u1).1, by simp [hfl], ?_, ?_, fun i y hi hy => ?_⟩
  · rw [List.flatten_append, List.nodup_append]
    refine ⟨hfn, by simpa using hnd, fun a ha b hb e => ?_⟩
    have h1 := (hfb a ha).2
    have h2 := (hF b (by simpa using hb)).1
    omega
  · intro y hy
    rw [hsz]
    rw [List.flatten_append, List.mem_append] at hy
    have hs := hE.size_le
    rcases hy with hy | hy
    · have := hfb y hy; omega
    · have := hF y (by simpa using hy); omega
  by_cases e : i = k
  · subst e
    rw [hx] at hy; cases hy
    refine ⟨u0, u1, F, ?_, ?_, ?_, hset (hset hr (by simp)) (by simp)⟩
    · rw [List.getElem?_set_ne (by omega), List.getElem?_set_self (by omega)]
    · rw [List.getElem?_set_self (by rw [List.length_set]; omega)]
    · rw [List.getElem?_append_right (by omega), hfl, Nat.sub_self]; rfl
  · obtain ⟨a0, a1, Fi, h0, h1, hf, h2⟩ := hv i y (by omega) hy
    refine ⟨a0, a1, Fi, ?_, ?_, ?_, hset (hset (hext h2 hE) (by simp)) (by simp)⟩
    · rw [List.getElem?_set_ne (by omega), List.getElem?_set_ne (by omega)]; exact h0
    · rw [List.getElem?_set_ne (by omega), List.getElem?_set_ne (by omega)]; exact h1
    · rw [List.getElem?_append_left (by omega)]; exact hf
theorem PairRowF.done {α : Type} {T : TypeId} {R : Nat → World → Value → Value → α → List Nat → Prop} (hweak : ∀ {B B' w u0 u1 x F}, R B w u0 u1 x F → B' ≤ B → R B' w u0 u1 x F) {B g n : Nat} {xs : List α} {w : World} (h : PairRowF T R B (g + 1) g n xs n w) (hn : xs.length = n) (hB : B ≤ g) :
    ∃ F, PairsF T R B w (.slice (some ⟨g, 0, none⟩) n n) xs F ∧ ∀ y ∈ F, g ≤ y ∧ y < w.heap.size := by
  obtain ⟨vs, Fs, ho, hfl, hfn, hfb, hv⟩ := h
  have hgl := (ho.lt g rfl).2
  refine ⟨g :: Fs.flatten, ⟨vs, Fs, by rw [hn]; exact ho, by rw [hfl, hn], by simp [Value.ownBlock], ?_, fun i x hi => ?_⟩, fun y hy => ?_⟩
  · refine List.nodup_cons.2 ⟨fun h => ?_, hfn⟩
    have := (hfb g h).1; omega
  · have hlt : i < n := by rw [← hn]; exact (List.getElem?_eq_some_iff.1 hi).1
    obtain ⟨u0, u1, Fi, h0, h1, hf, h2⟩ := hv i x hlt hi
    exact ⟨u0, u1, Fi, h0, h1, hf, hweak h2 (by omega)⟩
  · rcases List.mem_cons.1 hy with rfl | h
    · omega
    · have := hfb y h; omega
theorem opt_nodup (o : Option Nat) : o.toList.Nodup := by cases o <;> simp

theorem AffsF.nodup {B : Nat} {w : World} {v : Value} {xs : List Aff} {F : List Nat} (h : AffsF B w v xs F) : F.Nodup := by obtain ⟨_, _, _, _, _, hn, _⟩ := h; exact hn
theorem LoopF.nodup {B : Nat} {w : World} {u0 u1 : Value} {x : Lp} {F : List Nat} (h : LoopF B w u0 u1 x F) : F.Nodup := by obtain ⟨_, _, _, hn, _⟩ := h; exact hn

set_option maxHeartbeats 800000 in
theorem toAffineS_F (p : Option Addr) (n c : Nat) (zs : List Aff) (w : World) (hn : zs.length = n) (hs : AffsAt w (.slice p n c) zs) (hsm : SmallAs zs) :
    Calls Try.prog 89 #[.slice p n c] w fun e w' => ∃ q d F, e = .returned (.slice q n d) ∧ AffsF w.heap.size w' (.slice q n d) zs F ∧ (∀ y ∈ F, w.heap.size ≤ y ∧ y < w'.heap.size) ∧ Ext w w' := by
  have hm : n ≤ 1048576 := by rw [← hn]; exact hsm.1
  obtain ⟨i0, hi, hz0, hz1, hz2⟩ := info_parts infoAff
  have HS := Lib.hid hs; clear hs
  have HN := Lib.hid hn; clear hn
  have HSM := Lib.hid hsm; clear hsm
  go_enter Try.func89, Try.ntmps89
  go_wp2_with (at_make; refine wpList_make_full _ rfl _ _ 61 rfl w.heap.size 64 i0 (.agg #[.slice none 0 0, .int .i64 0]) 2 Try.underlying61 hi hz0 hz1 _ _ _ _ n rfl rfl rfl rfl ?b2 ?b3 (Nat.le_refl _) ?_)
  case b2 => rw [hz2]; omega
  case b3 => unfold maxLen; omega
  intro w0 hown0 hgrow0
  have HP := Lib.hid (show PairRowF 64 AffF w.heap.size (w.heap.size + 1) w.heap.size n zs 0 w0 from ⟨_, [], hown0, rfl, by simp, by simp, fun i x hi => absurd hi (by omega)⟩)
  have HG := Lib.hid ((Ext.refl w).grown hgrow0 (fun k h => by cases h))
  clear hown0 hgrow0 hi hz0 hz1 hz2
  go_wp2
  go_loopw [4] (fun i wr => ∃ k : Nat, k ≤ n ∧ i = .int .i64 k ∧ PairRowF 64 AffF w.heap.size (w.heap.size + 1) w.heap.size n zs k wr ∧ Ext w wr) (fun i _ => n - (intOf i).toNat)
  case atStart => exact ⟨0, by omega, rfl, HP.out, HG.out⟩
  case round =>
    obtain ⟨k, hk, rfl, hrow, hE⟩ := hrel
    by_cases hlt : k < n
    · obtain ⟨x, hx⟩ := get_some (xs := zs) (k := k) (by rw [HN.out]; exact hlt)
      obtain ⟨b, off, q, m, rfl, c0, c1, hb, hr⟩ := (HS.out.ext hE).elem hx
      have hxs := HSM.out.2 x (List.mem_of_getElem? hx)
      have HX := Lib.hid hx; have HR := Lib.hid hr; have HW := Lib.hid hrow; clear hx hr hrow
      go_wp2_with (fail)
      refine (toAffine_any _ x.1 x.2 _ HR.out hxs).mono ?_
      rintro e w1 ⟨q1, m1, rfl, hv, hE1⟩
      obtain ⟨f0, f1, ⟨v0, d0⟩, ⟨v1, d1⟩, hg0, hg1⟩ := HW.out.open' hE1 hlt
      have HFB := Lib.hid (show ∀ y ∈ (Value.slice q1 x.1.length m1).ownBlock.toList, wr.heap.size ≤ y ∧ y < w1.heap.size from (show IntsF _ _ _ _ _ from ⟨hv, rfl⟩).lt)
      have HV := Lib.hid (hv.weak (B' := w.heap.size + 1) (by have := HW.out.open' (Ext.refl wr) hlt; omega))
      have HE1 := Lib.hid hE1
      clear hv hE1 c0 c1
      go_wp2
      go_roundw
      case rel => exact ⟨k + 1, by omega, by go_num, PairRowF.step (R := AffF) (fun h hb => AffF.ext h hb) (fun h hp => AffF.setOld h hp _) HW.out HE1.out hlt HX.out ⟨⟨HV.out, rfl⟩, rfl⟩ HFB.out (opt_nodup _), ((hE.trans HE1.out).setCell (Nat.le_refl _) _).setCell (Nat.le_refl _) _⟩
      case measure => simp [intOf]; omega
    · go_wp2
      go_ret
      have e : k = n := by omega
      subst e
      obtain ⟨F, h1, h2⟩ := PairRowF.done (R := AffF) (fun h hB => ⟨⟨h.1.1.weak hB, h.1.2⟩, h.2⟩) hrow HN.out (Nat.le_refl _)
      exact ⟨_, _, F, rfl, h1, h2, hE⟩

set_option maxHeartbeats 1000000 in
theorem toLoop_F (s t : Value) (x : Lp) (w : World) (hs : AffsAt w s x.1) (ht : AffsAt w t x.2) (h1 : SmallAs x.1) (h2 : SmallAs x.2) :
    Calls Try.prog 48 #[.agg #[s, t]] w fun e w' => ∃ p c q d F, e = .returned (.agg #[.slice p x.1.length c, .slice q x.2.length d]) ∧ LoopF w.heap.size w' (.slice p x.1.length c) (.slice q x.2.length d) x F ∧ (∀ y ∈ F, w.heap.size ≤ y ∧ y < w'.heap.size) ∧ Ext w w' := by
  obtain ⟨p, c, rfl, hm⟩ := hs.form
  obtain ⟨q, d, rfl, hm2⟩ := ht.form
  have HS := Lib.hid hs; have HT := Lib.hid ht; have H1 := Lib.hid h1; have H2 := Lib.hid h2; clear hs ht h1 h2
  generalize hga : w.heap.size = ga at *
  have HGA := Lib.hid hga; clear hga
  go_enter Try.func48, Try.ntmps48
  go_wp2_with (fail)
  refine (toAffineS_F p _ c x.1 _ rfl (HS.out.ext ((((Ext.refl w).alloc _).alloc _).alloc _)) H1.out).mono ?_
  rintro e W1 ⟨p1, d1, F0, rfl, hv, hvb, hE⟩
  have HF0 := Lib.hid (show ∀ y ∈ F0, w.heap.size ≤ y ∧ y < W1.heap.size from fun y hy => by have := hvb y hy; simp only [World.size_alloc] at this; omega)
  clear hvb
  have E1 : Hid (Ext w W1) := ((((Ext.refl w).alloc _).alloc _).alloc _).trans hE
  have BA := hE.blk (g := ga) (blk_old (blk_old (blk_at HGA.out.symm)))
  have BR := hE.blk (g := ga + 1) (blk_old (blk_at (by simp [HGA.out])))
  have BO := hE.blk (g := ga + 1 + 1) (blk_at (by simp [HGA.out]))
  have hl := lt_of_block BO
  have HV := Lib.hid (hv.weak (B' := ga + 1 + 1 + 1) (by simp [HGA.out]))
  obtain ⟨a0, a1, -, -⟩ := blk2 (blk_off (g' := ga + 1 + 1) (o' := 0) BA (by omega) (.slice p1 x.1.length d1))
  obtain ⟨o0, o1, f0, f1⟩ := blk2 BO
  have HBR := Lib.hid (blk_off (g' := ga + 1 + 1) (o' := 0) BR (by omega) (.slice p1 x.1.length d1))
  have HBO := Lib.hid (blk2_set0' (c := .slice p1 x.1.length d1) BO)
  have E2 : Hid (Ext w (W1.setCell ⟨ga + 1 + 1, 0, none⟩ (.slice p1 x.1.length d1))) := E1.out.setCell (by rw [HGA.out]; simp <;> omega) _
  have HV2 := Lib.hid (HV.out.setOld (p := ⟨ga + 1 + 1, 0, none⟩) (by simp) (.slice p1 x.1.length d1))
  clear hE hv BA BR BO HV
  rw [HGA.out]
  go_wp2_with (fail)
  clear f0 f1 o0 o1 hl E1
  have HS2 := Lib.hid (show (W1.setCell ⟨ga + 1 + 1, 0, none⟩ (.slice p1 x.1.length d1)).heap.size = W1.heap.size by simp)
  generalize W1.setCell ⟨ga + 1 + 1, 0, none⟩ (.slice p1 x.1.length d1) = W2 at *
  refine (toAffineS_F q _ d x.2 _ rfl (HT.out.ext E2.out) H2.out).mono ?_
  rintro e W3 ⟨p3, d3, F1, rfl, hv, hvb, hE⟩
  have HF1 := Lib.hid hvb
  have hs23 := Lib.hid hE.size_le
  clear hvb
  have E3 : Hid (Ext w W3) := E2.out.trans hE
  obtain ⟨o0, o1, f0, f1⟩ := blk2 (hE.blk HBO.out)
  obtain ⟨r0, r1, e0, e1⟩ := blk2 (hE.blk HBR.out)
  have hl := lt_of_block (hE.blk HBO.out)
  have HV3 := Lib.hid (HV2.out.ext hE)
  have HY3 := Lib.hid (hv.weak (B' := ga + 1 + 1 + 1) (by have := lt_of_block HBO.out; omega))
  clear hE hv HV2 a0 a1 HBO HBR
  go_wp2
  refine bodyPost_ret (v := .agg #[.slice p1 x.1.length d1, .slice p3 x.2.length d3]) (by simp [results, Try.results48, go_sem, r0, r1]) rfl ⟨_, _, _, _, F0 ++ F1, rfl, ⟨F0, F1, rfl, ?_, ?_, ?_⟩, ?_, ?_⟩
  · refine List.nodup_append.2 ⟨HV3.out.nodup, HY3.out.nodup, fun a ha b hb e => ?_⟩
    have h1 := (HF0.out a ha).2
    have h2 := (HF1.out b hb).1
    have h3 := HS2.out
    omega
  · refine AffsF.weak (B := ga + 1 + 1 + 1) ?_ (by omega)
    repeat (refine AffsF.setOld ?_ (by simp <;> omega) _)
    exact HV3.out
  · refine AffsF.weak (B := ga + 1 + 1 + 1) ?_ (by omega)
    repeat (refine AffsF.setOld ?_ (by simp <;> omega) _)
    exact HY3.out
  · intro y hy
    have hga := HGA.out
    have h3 := HS2.out
    have h4 := hs23.out
    simp only [World.size_setCell]
    rcases List.mem_append.1 hy with h | h
    · have := HF0.out y h; omega
    · have := HF1.out y h; have := HF0.out; have := E2.out.size_le; omega
  · repeat (refine Ext.setCell ?_ (by rw [HGA.out]; simp <;> omega) _)
    exact E3.out

set_option maxHeartbeats 800000 in
theorem toLoopS_F (p : Option Addr) (n c : Nat) (zs : List Lp) (w : World) (hn : zs.length = n) (hs : LoopsAt w (.slice p n c) zs) (hsm : SmallLs zs) :
    Calls Try.prog 14 #[.slice p n c] w fun e w' => ∃ q d F, e = .returned (.slice q n d) ∧ LoopsF w.heap.size w' (.slice q n d) zs F ∧ (∀ y ∈ F, w.heap.size ≤ y ∧ y < w'.heap.size) ∧ Ext w w' := by
  have hm : n ≤ 1048576 := by rw [← hn]; exact hsm.1
  obtain ⟨i0, hi, hz0, hz1, hz2⟩ := info_parts infoLoop
  have HS := Lib.hid hs; clear hs
  have HN := Lib.hid hn; clear hn
  have HSM := Lib.hid hsm; clear hsm
  go_enter Try.func14, Try.ntmps14
  go_wp2_with (at_make; refine wpList_make_full _ rfl _ _ 27 rfl w.heap.size 82 i0 (.agg #[.slice none 0 0, .slice none 0 0]) 2 Try.underlying27 hi hz0 hz1 _ _ _ _ n rfl rfl rfl rfl ?b2 ?b3 (Nat.le_refl _) ?_)
  case b2 => rw [hz2]; omega
  case b3 => unfold maxLen; omega
  intro w0 hown0 hgrow0
  have HP := Lib.hid (show PairRowF 82 LoopF w.heap.size (w.heap.size + 1) w.heap.size n zs 0 w0 from ⟨_, [], hown0, rfl, by simp, by simp, fun i x hi => absurd hi (by omega)⟩)
  have HG := Lib.hid ((Ext.refl w).grown hgrow0 (fun k h => by cases h))
  clear hown0 hgrow0 hi hz0 hz1 hz2
  go_wp2
  go_loopw [4] (fun i wr => ∃ k : Nat, k ≤ n ∧ i = .int .i64 k ∧ PairRowF 82 LoopF w.heap.size (w.heap.size + 1) w.heap.size n zs k wr ∧ Ext w wr) (fun i _ => n - (intOf i).toNat)
  case atStart => exact ⟨0, by omega, rfl, HP.out, HG.out⟩
  case round =>
    obtain ⟨k, hk, rfl, hrow, hE⟩ := hrel
    by_cases hlt : k < n
    · obtain ⟨x, hx⟩ := get_some (xs := zs) (k := k) (by rw [HN.out]; exact hlt)
      obtain ⟨b, off, q, m, q', m', rfl, c0, c1, hb, hr, hr'⟩ := (HS.out.ext hE).elem hx
      obtain ⟨hxs, hxs'⟩ := HSM.out.2 x (List.mem_of_getElem? hx)
      have HX := Lib.hid hx; have HR := Lib.hid hr; have HR' := Lib.hid hr'; have HW := Lib.hid hrow; have HXs := Lib.hid hxs; have HXs' := Lib.hid hxs'; clear hx hr hr' hrow hxs hxs'
      go_wp2_with (fail)
      refine (toLoop_F _ _ x _ HR.out HR'.out HXs.out HXs'.out).mono ?_
      rintro e w1 ⟨q1, m1, q2, m2, F, rfl, hv, hvb, hE1⟩
      obtain ⟨f0, f1, ⟨v0, d0⟩, ⟨v1, d1⟩, hg0, hg1⟩ := HW.out.open' hE1 hlt
      have hB : w.heap.size + 1 ≤ wr.heap.size := by have := HW.out.open' (Ext.refl wr) hlt; omega
      have HV := Lib.hid (hv.weak (B' := w.heap.size + 1) hB)
      have HV' := Lib.hid hvb
      have HE1 := Lib.hid hE1
      clear hv hvb hE1 c0 c1
      go_wp2
      go_roundw
      case rel => exact ⟨k + 1, by omega, by go_num, PairRowF.step (R := LoopF) (fun h hb => LoopF.ext h hb) (fun h hp => LoopF.setOld h hp _) HW.out HE1.out hlt HX.out HV.out HV'.out HV.out.nodup, ((hE.trans HE1.out).setCell (Nat.le_refl _) _).setCell (Nat.le_refl _) _⟩
      case measure => simp [intOf]; omega
    · go_wp2
      go_ret
      have e : k = n := by omega
      subst e
      obtain ⟨F, h1, h2⟩ := PairRowF.done (R := LoopF) (fun h hB => LoopF.weak h hB) hrow HN.out (Nat.le_refl _)
      exact ⟨_, _, F, rfl, h1, h2, hE⟩
end Go.Proofs.Ytkcbnkgegopkhaa

namespace Go.Proofs.Ytkcbnkgegopkhaa
open Go.RowKit

/-- What the laws' helpers count. -/
def sumA : List Aff → Int
  | [] => 0
  | a :: l => a.1.length + sumA l
def cntA (zs : List Aff) : Int := zs.length + sumA zs
def sumL : List Lp → Int
  | [] => 0
  | x :: l => cntA x.1 + cntA x.2 + sumL l
def cntL (ls : List Lp) : Int := ls.length + sumL ls
theorem sumA_app (l r : List Aff) : sumA (l ++ r) = sumA l + sumA r := by
  induction l with
  | nil => simp [sumA]
  | cons a l ih => simp only [List.cons_append, sumA]; omega
theorem sumL_app (l r : List Lp) : sumL (l ++ r) = sumL l + sumL r := by
  induction l with
  | nil => simp [sumL]
  | cons a l ih => simp only [List.cons_append, sumL]; omega
theorem sumA_next {zs : List Aff} {k : Nat} {x : Aff} (h : zs[k]? = some x) : sumA (zs.take (k + 1)) = sumA (zs.take k) + x.1.length := by rw [take_next h, sumA_app]; simp [sumA]
theorem sumL_next {zs : List Lp} {k : Nat} {x : Lp} (h : zs[k]? = some x) : sumL (zs.take (k + 1)) = sumL (zs.take k) + cntA x.1 + cntA x.2 := by rw [take_next h, sumL_app]; simp [sumL]; omega

set_option maxHeartbeats 800000 in
theorem szAffineSc_any (p : Option Addr) (n c : Nat) (zs : List Aff) (left : Int) (w : World) (hn : zs.length = n) (hs : AffsAt w (.slice p n c) zs) (h0 : 0 ≤ left) (h1 : left ≤ 1048576) :
    Calls Try.prog 87 #[.slice p n c, .int .i64 left] w fun e w' => (∃ z : Int, e = .returned (.int .i64 z) ∧ (z = -1 ∨ (0 ≤ z ∧ z ≤ 1048576 ∧ z = left - cntA zs ∧ SmallAs zs))) ∧ Ext w w' := by
  have hm : n ≤ 9223372036854775807 := by obtain ⟨_, _, hv, hm, _⟩ := hs; rw [← hn]; exact hm
  have HS := Lib.hid hs; clear hs
  have HN := Lib.hid hn; clear hn
  by_cases hsm : left - n < 0
  · go_enter Try.func87, Try.ntmps87
    go_wp2
    go_ret
    exact ⟨⟨-1, rfl, .inl rfl⟩, Ext.refl w⟩
  · go_enter Try.func87, Try.ntmps87
    go_wp2
    go_loopw [1, 5] (fun l i wr => ∃ k : Nat, k ≤ n ∧ i = .int .i64 k ∧ (∃ z : Int, l = .int .i64 z ∧ 0 ≤ z ∧ z ≤ 1048576 ∧ z = left - n - sumA (zs.take k)) ∧ (∀ a ∈ zs.take k, a.1.length ≤ 1048576) ∧ Ext w wr) (fun _ i _ => n - (intOf i).toNat)
    case atStart => exact ⟨0, by omega, rfl, ⟨_, rfl, by omega, by omega, by simp [sumA]⟩, by simp, Ext.refl w⟩
    case round =>
      obtain ⟨k, hk, rfl, ⟨z, rfl, hz0, hz1, hze⟩, hall, hE⟩ := hrel
      have HZE := Lib.hid hze; clear hze
      have HA := Lib.hid hall; clear hall
      by_cases hlt : k < n
      · obtain ⟨x, hx⟩ := get_some (xs := zs) (k := k) (by rw [HN.out]; exact hlt)
        obtain ⟨b, off, q, m, rfl, c0, c1, hb, hr⟩ := (HS.out.ext hE).elem hx
        have hxm : x.1.length ≤ 9223372036854775807 := by obtain ⟨_, _, hv, hm, _⟩ := hr; exact hm
        have HX := Lib.hid hx; clear hx hr
        have hbd : szI z x.1.length < 0 → szI z x.1.length = -1 := by unfold szI; split <;> omega
        have hbd2 : ¬ szI z x.1.length < 0 → 0 ≤ szI z x.1.length ∧ szI z x.1.length ≤ 1048576 ∧ szI z x.1.length = z - x.1.length ∧ x.1.length ≤ 1048576 := by unfold szI; split <;> omega
        have HB := Lib.hid hbd; have HB2 := Lib.hid hbd2; clear hbd hbd2
        have hrng : -1 ≤ szI z x.1.length ∧ szI z x.1.length ≤ 1048576 := by unfold szI; split <;> omega
        go_wp2_with (go_at_call 107; refine (szAffine_any _ _ _ _ _ _ hxm hz0 hz1).mono ?_; rintro e w' ⟨rfl, hE2⟩)
        · have h : szI z x.1.length < 0 := by assumption
          go_ret
          exact ⟨⟨-1, rfl, .inl rfl⟩, hE.trans hE2⟩
        · have h : 0 ≤ szI z x.1.length := by assumption
          obtain ⟨q0, q1, q3, q2⟩ := HB2.out h
          go_roundw
          case rel => exact ⟨k + 1, by omega, by go_num, ⟨_, rfl, q0, q1, by rw [q3, HZE.out, sumA_next HX.out]; omega⟩, mem_take_next HX.out HA.out q2, hE.trans hE2⟩
          case measure => simp [intOf]; omega
      · have e : k = n := by omega
        subst e
        go_wp2
        go_ret
        refine ⟨⟨z, rfl, .inr ⟨hz0, hz1, ?_, by rw [HN.out]; omega, ?_⟩⟩, hE⟩
        · have h := HZE.out
          rw [List.take_of_length_le (by rw [HN.out]; omega)] at h
          rw [h]; simp only [cntA, HN.out]; omega
        · have h := HA.out
          rwa [List.take_of_length_le (by rw [HN.out]; omega)] at h

set_option maxHeartbeats 800000 in
theorem szLoopc_any (s t : Value) (x : Lp) (left : Int) (w : World) (hs : AffsAt w s x.1) (ht : AffsAt w t x.2) (h0 : 0 ≤ left) (h1 : left ≤ 1048576) :
    Calls Try.prog 44 #[.agg #[s, t], .int .i64 left] w fun e w' => (∃ z : Int, e = .returned (.int .i64 z) ∧ (z = -1 ∨ (0 ≤ z ∧ z ≤ 1048576 ∧ z = left - cntA x.1 - cntA x.2 ∧ SmallAs x.1 ∧ SmallAs x.2))) ∧ Ext w w' := by
  obtain ⟨p, c, rfl, hm⟩ := hs.form
  obtain ⟨q, d, rfl, hm2⟩ := ht.form
  have HS := Lib.hid hs; have HT := Lib.hid ht; clear hs ht
  go_enter Try.func44, Try.ntmps44
  go_wp2_with (fail)
  refine (szAffineSc_any p _ c x.1 left _ rfl (HS.out.ext ((Ext.refl w).alloc _)) h0 h1).mono ?_
  rintro e W1 ⟨⟨z, rfl, hz⟩, hE⟩
  have E1 : Hid (Ext w W1) := ((Ext.refl w).alloc _).trans hE
  obtain ⟨c0, c1, -, -⟩ := blk2 (hE.blk (g := w.heap.size) (blk_at rfl))
  clear hE
  rcases hz with rfl | ⟨z0, z1, hzq, hz⟩
  · go_wp2_with (fail)
    go_ret
    exact ⟨⟨-1, rfl, .inl rfl⟩, E1.out⟩
  · have HZ := Lib.hid hz; have HZQ := Lib.hid hzq; clear hz hzq
    go_wp2_with (fail)
    refine (szAffineSc_any q _ d x.2 z _ rfl (HT.out.ext E1.out) z0 z1).mono ?_
    rintro e W2 ⟨⟨y, rfl, hy⟩, hE⟩
    have E2 : Hid (Ext w W2) := E1.out.trans hE
    clear hE c0 c1
    rcases hy with rfl | ⟨y0, y1, hyq, hy⟩
    · go_wp2_with (fail)
      go_ret
      exact ⟨⟨-1, rfl, .inl rfl⟩, E2.out⟩
    · have HY := Lib.hid hy; have HYQ := Lib.hid hyq; clear hy hyq
      go_wp2_with (fail)
      go_ret
      exact ⟨⟨y, rfl, .inr ⟨y0, y1, by rw [HYQ.out, HZQ.out], HZ.out, HY.out⟩⟩, E2.out⟩

set_option maxHeartbeats 800000 in
theorem szLoopSc_any (p : Option Addr) (n c : Nat) (ls : List Lp) (left : Int) (w : World) (hn : ls.length = n) (hs : LoopsAt w (.slice p n c) ls) (h0 : 0 ≤ left) (h1 : left ≤ 1048576) :
    Calls Try.prog 12 #[.slice p n c, .int .i64 left] w fun e w' => (∃ z : Int, e = .returned (.int .i64 z) ∧ (z = -1 ∨ (0 ≤ z ∧ z ≤ 1048576 ∧ z = left - cntL ls ∧ SmallLs ls))) ∧ Ext w w' := by
  have hm : n ≤ 9223372036854775807 := by obtain ⟨_, _, hv, hm, _⟩ := hs; rw [← hn]; exact hm
  have HS := Lib.hid hs; clear hs
  have HN := Lib.hid hn; clear hn
  by_cases hsm : left - n < 0
  · go_enter Try.func12, Try.ntmps12
    go_wp2
    go_ret
    exact ⟨⟨-1, rfl, .inl rfl⟩, Ext.refl w⟩
  · go_enter Try.func12, Try.ntmps12
    go_wp2
    go_loopw [1, 5] (fun l i wr => ∃ k : Nat, k ≤ n ∧ i = .int .i64 k ∧ (∃ z : Int, l = .int .i64 z ∧ 0 ≤ z ∧ z ≤ 1048576 ∧ z = left - n - sumL (ls.take k)) ∧ (∀ a ∈ ls.take k, SmallAs a.1 ∧ SmallAs a.2) ∧ Ext w wr) (fun _ i _ => n - (intOf i).toNat)
    case atStart => exact ⟨0, by omega, rfl, ⟨_, rfl, by omega, by omega, by simp [sumL]⟩, by simp, Ext.refl w⟩
    case round =>
      obtain ⟨k, hk, rfl, ⟨z, rfl, hz0, hz1, hze⟩, hall, hE⟩ := hrel
      have HZE := Lib.hid hze; clear hze
      have HA := Lib.hid hall; clear hall
      by_cases hlt : k < n
      · obtain ⟨x, hx⟩ := get_some (xs := ls) (k := k) (by rw [HN.out]; exact hlt)
        obtain ⟨b, off, q, m, q', m', rfl, c0, c1, hb, hr, hr'⟩ := (HS.out.ext hE).elem hx
        have HX := Lib.hid hx; have HR := Lib.hid hr; have HR' := Lib.hid hr'; clear hx hr hr'
        go_wp2_with (fail)
        refine (szLoopc_any _ _ x z _ HR.out HR'.out hz0 hz1).mono ?_
        rintro e w' ⟨⟨y, rfl, hy⟩, hE2⟩
        rcases hy with rfl | ⟨y0, y1, hyq, hy⟩
        · go_wp2_with (fail)
          go_ret
          exact ⟨⟨-1, rfl, .inl rfl⟩, hE.trans hE2⟩
        · have HY := Lib.hid hy; have HYQ := Lib.hid hyq; clear hy hyq
          go_wp2_with (fail)
          go_roundw
          case rel => exact ⟨k + 1, by omega, by go_num, ⟨_, rfl, y0, y1, by rw [HYQ.out, HZE.out, sumL_next HX.out]; omega⟩, mem_take_next HX.out HA.out HY.out, hE.trans hE2⟩
          case measure => simp [intOf]; omega
      · have e : k = n := by omega
        subst e
        go_wp2
        go_ret
        refine ⟨⟨z, rfl, .inr ⟨hz0, hz1, ?_, by rw [HN.out]; omega, ?_⟩⟩, hE⟩
        · have h := HZE.out
          rw [List.take_of_length_le (by rw [HN.out]; omega)] at h
          rw [h]; simp only [cntL, HN.out]; omega
        · have h := HA.out
          rwa [List.take_of_length_le (by rw [HN.out]; omega)] at h
end Go.Proofs.Ytkcbnkgegopkhaa
