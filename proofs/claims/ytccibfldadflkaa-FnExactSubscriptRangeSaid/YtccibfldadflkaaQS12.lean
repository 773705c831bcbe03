/- The texts N3, joined. No statement is proved here. -/
import Derived.Test.YtccibfldadflkaaQS11
/- Contracts of the laws' own helpers for nests: copies of loops and nests. -/
namespace Go.Proofs.Ytccibfldadflkaa
open Go.RowKit

theorem blk2_set0' {W : World} {g : Nat} {a b c : Value} {t : TypeId} (h : W.heap[g]? = some (.cells #[a, b] t (0, 0))) : (W.setCell ⟨g, 0, none⟩ c).heap[g]? = some (.cells #[c, b] t (0, 0)) := by
  rw [heap_setCell_same W g 0 _ _ c h]; rfl
theorem blk_off {a : World} {g g' o' : Nat} {o : Obj} (hg : a.heap[g]? = some o) (hne : g ≠ g') (u : Value) : (a.setCell ⟨g', o', none⟩ u).heap[g]? = some o := (Below.heap_setCell _ _ _ _ hne).trans hg

set_option maxHeartbeats 1000000 in
theorem toLoop_any (s t : Value) (x : Lp) (w : World) (hs : AffsAt w s x.1) (ht : AffsAt w t x.2) (h1 : SmallAs x.1) (h2 : SmallAs x.2) :
    Calls Try.prog 38 #[.agg #[s, t]] w fun e w' => ∃ p c q d, e = .returned (.agg #[.slice p x.1.length c, .slice q x.2.length d]) ∧ AffsOwn w.heap.size w' (.slice p x.1.length c) x.1 ∧ AffsOwn w.heap.size w' (.slice q x.2.length d) x.2 ∧ Ext w w' := by
  obtain ⟨p, c, rfl, hm⟩ := hs.form
  obtain ⟨q, d, rfl, hm2⟩ := ht.form
  have HS := Lib.hid hs; have HT := Lib.hid ht; have H1 := Lib.hid h1; have H2 := Lib.hid h2; clear hs ht h1 h2
  generalize hga : w.heap.size = ga at *
  have HGA := Lib.hid hga; clear hga
  go_enter Try.func38, Try.ntmps38
  go_wp2_with (fail)
  refine (toAffineS_any p _ c x.1 _ rfl (HS.out.ext ((((Ext.refl w).alloc _).alloc _).alloc _)) H1.out).mono ?_
  rintro e W1 ⟨p1, d1, rfl, hv, hE⟩
  have E1 : Hid (Ext w W1) := ((((Ext.refl w).alloc _).alloc _).alloc _).trans hE
  have BA := hE.blk (g := ga) (blk_old (blk_old (blk_at HGA.out.symm)))
  have BR := hE.blk (g := ga + 1) (blk_old (blk_at (by simp [HGA.out])))
  have BO := hE.blk (g := ga + 1 + 1) (blk_at (by simp [HGA.out]))
  have hl := lt_of_block BO
  have HV := Lib.hid (hv.weak (B' := ga + 1 + 1 + 1) (by simp [HGA.out]))
  obtain ⟨a0, a1, -, -⟩ := blk2 (blk_off (g' := ga + 1 + 1) (o' := 0) BA (by omega) (.slice p1 x.1.length d1))
  obtain ⟨o0, o1, f0, f1⟩ := blk2 BO
  have HBR := Lib.hid (blk_off (g' := ga + 1 + 1) (o' := 0) BR (by omega) (.slice p1 x.1.length d1))
  have HBO := Lib.hid (blk2_set0' (c := .slice p1 x.1.length d1) BO)
  have E2 : Hid (Ext w (W1.setCell ⟨ga + 1 + 1, 0, none⟩ (.slice p1 x.1.length d1))) := E1.out.setCell (by rw [HGA.out]; simp <;> omega) _
  have HV2 := Lib.hid (HV.out.setOld (p := ⟨ga + 1 + 1, 0, none⟩) (by simp) (.slice p1 x.1.length d1))
  clear hE hv BA BR BO HV
  rw [HGA.out]
  go_wp2_with (fail)
  clear f0 f1 o0 o1 hl E1
  generalize W1.setCell ⟨ga + 1 + 1, 0, none⟩ (.slice p1 x.1.length d1) = W2 at *
  refine (toAffineS_any q _ d x.2 _ rfl (HT.out.ext E2.out) H2.out).mono ?_
  rintro e W3 ⟨p3, d3, rfl, hv, hE⟩
  have E3 : Hid (Ext w W3) := E2.out.trans hE
  obtain ⟨o0, o1, f0, f1⟩ := blk2 (hE.blk HBO.out)
  obtain ⟨r0, r1, e0, e1⟩ := blk2 (hE.blk HBR.out)
  have hl := lt_of_block (hE.blk HBO.out)
  have HV3 := Lib.hid (HV2.out.ext hE)
  have HY3 := Lib.hid (hv.weak (B' := ga + 1 + 1 + 1) (by have := lt_of_block HBO.out; omega))
  clear hE hv HV2 a0 a1 HBO HBR
  go_wp2
  refine bodyPost_ret (v := .agg #[.slice p1 x.1.length d1, .slice p3 x.2.length d3]) (by simp [results, Try.results38, go_sem, r0, r1]) rfl ⟨_, _, _, _, rfl, ?_, ?_, ?_⟩
  · refine AffsOwn.weak (B := ga + 1 + 1 + 1) ?_ (by omega)
    repeat (refine AffsOwn.setOld ?_ (by simp <;> omega) _)
    exact HV3.out
  · refine AffsOwn.weak (B := ga + 1 + 1 + 1) ?_ (by omega)
    repeat (refine AffsOwn.setOld ?_ (by simp <;> omega) _)
    exact HY3.out
  · repeat (refine Ext.setCell ?_ (by rw [HGA.out]; simp <;> omega) _)
    exact E3.out

set_option maxHeartbeats 800000 in
theorem toLoopS_any (p : Option Addr) (n c : Nat) (zs : List Lp) (w : World) (hn : zs.length = n) (hs : LoopsAt w (.slice p n c) zs) (hsm : SmallLs zs) :
    Calls Try.prog 14 #[.slice p n c] w fun e w' => ∃ q d, e = .returned (.slice q n d) ∧ LoopsOwn w.heap.size w' (.slice q n d) zs ∧ Ext w w' := by
  have hm : n ≤ 1048576 := by rw [← hn]; exact hsm.1
  obtain ⟨i0, hi, hz0, hz1, hz2⟩ := info_parts infoLoop
  have HS := Lib.hid hs; clear hs
  have HN := Lib.hid hn; clear hn
  have HSM := Lib.hid hsm; clear hsm
  go_enter Try.func14, Try.ntmps14
  go_wp2_with (at_make; refine wpList_make_full _ rfl _ _ 34 rfl w.heap.size 75 i0 (.agg #[.slice none 0 0, .slice none 0 0]) 2 Try.underlying34 hi hz0 hz1 _ _ _ _ n rfl rfl rfl rfl ?b2 ?b3 (Nat.le_refl _) ?_)
  case b2 => rw [hz2]; omega
  case b3 => unfold maxLen; omega
  intro w0 hown0 hgrow0
  have HP := Lib.hid (show PairRow 75 LoopO w.heap.size (w.heap.size + 1) w.heap.size n zs 0 w0 from ⟨_, hown0, fun i x hi => absurd hi (by omega)⟩)
  have HG := Lib.hid ((Ext.refl w).grown hgrow0 (fun k h => by cases h))
  clear hown0 hgrow0 hi hz0 hz1 hz2
  go_wp2
  go_loopw [4] (fun i wr => ∃ k : Nat, k ≤ n ∧ i = .int .i64 k ∧ PairRow 75 LoopO w.heap.size (w.heap.size + 1) w.heap.size n zs k wr ∧ Ext w wr) (fun i _ => n - (intOf i).toNat)
  case atStart => exact ⟨0, by omega, rfl, HP.out, HG.out⟩
  case round =>
    obtain ⟨k, hk, rfl, hrow, hE⟩ := hrel
    by_cases hlt : k < n
    · obtain ⟨x, hx⟩ := get_some (xs := zs) (k := k) (by rw [HN.out]; exact hlt)
      obtain ⟨b, off, q, m, q', m', rfl, c0, c1, hb, hr, hr'⟩ := (HS.out.ext hE).elem hx
      obtain ⟨hxs, hxs'⟩ := HSM.out.2 x (List.mem_of_getElem? hx)
      have HX := Lib.hid hx; have HR := Lib.hid hr; have HR' := Lib.hid hr'; have HW := Lib.hid hrow; have HXs := Lib.hid hxs; have HXs' := Lib.hid hxs'; clear hx hr hr' hrow hxs hxs'
      go_wp2_with (fail)
      refine (toLoop_any _ _ x _ HR.out HR'.out HXs.out HXs'.out).mono ?_
      rintro e w1 ⟨q1, m1, q2, m2, rfl, hv, hv', hE1⟩
      obtain ⟨f0, f1, ⟨v0, d0⟩, ⟨v1, d1⟩, hg0, hg1⟩ := HW.out.open' hE1 hlt
      have hB : w.heap.size + 1 ≤ wr.heap.size := by have := HW.out.open' (Ext.refl wr) hlt; omega
      have HV := Lib.hid (hv.weak (B' := w.heap.size + 1) hB)
      have HV' := Lib.hid (hv'.weak (B' := w.heap.size + 1) hB)
      have HE1 := Lib.hid hE1
      clear hv hv' hE1 c0 c1
      go_wp2
      go_roundw
      case rel => exact ⟨k + 1, by omega, by go_num, PairRow.step (fun h hb => ⟨h.1.ext hb, h.2.ext hb⟩) (fun h hp => ⟨h.1.setOld hp _, h.2.setOld hp _⟩) HW.out HE1.out hlt HX.out ⟨HV.out, HV'.out⟩, ((hE.trans HE1.out).setCell (Nat.le_refl _) _).setCell (Nat.le_refl _) _⟩
      case measure => simp [intOf]; omega
    · go_wp2
      go_ret
      have e : k = n := by omega
      subst e
      exact ⟨_, _, rfl, PairRow.done (fun h hB => ⟨h.1.weak hB, h.2.weak hB⟩) hrow HN.out (Nat.le_refl _), hE⟩
end Go.Proofs.Ytccibfldadflkaa
