/- The texts D6, joined. No statement is proved here. -/
import Derived.Test.YtccibfldadflkaaQV33
import Derived.Deep.RegionHeld3
/- Draws: a valid expression. -/
namespace Go.Proofs.Ytccibfldadflkaa
open Go.RowKit

theorem blk_offD {a : World} {g g' o' : Nat} {o : Obj} (hg : a.heap[g]? = some o) (hne : g ≠ g') (u : Value) : (a.setCell ⟨g', o', none⟩ u).heap[g]? = some o := (Below.heap_setCell _ _ _ _ hne).trans hg

set_option maxHeartbeats 1000000 in
theorem l1Const_any (k : Int) (w : World) : Calls Try.prog 76 #[.int .i64 k] w fun e w' => ∃ p c, e = .returned (.agg #[.slice p 4 c, .int .i64 k]) ∧ IntsOwn w.heap.size w' (.slice p 4 c) [0, 0, 0, 0] ∧ Ext w w' := by
  go_enter Try.func76, Try.ntmps76
  go_wp2_with (fail)
  refine (l1Zero_any _).mono ?_
  rintro e w1 ⟨p, c, rfl, hv, hE⟩
  have E1 : Hid (Ext w w1) := ((Ext.refl w).alloc _).trans hE
  have BR := hE.blk (g := w.heap.size) (blk_at rfl)
  obtain ⟨r0, r1, f0, f1⟩ := blk2 BR
  have hlt := lt_of_block BR
  have HV := Lib.hid (hv.weak (B' := w.heap.size + 1) (by simp))
  clear hv hE BR
  go_wp2
  refine bodyPost_ret (v := .agg #[.slice p 4 c, .int .i64 k]) (by simp [results, Try.results76, go_sem, r0, r1, hlt]) rfl ⟨p, c, rfl, ?_, ?_⟩
  · refine IntsOwn.weak (B := w.heap.size + 1) ?_ (by omega)
    exact ((HV.out.setAt (by omega) _).setAt (by omega) _).ext ((Ext.refl _).alloc _)
  · exact ((E1.out.setAt (by omega) _).setAt (by omega) _).alloc _

/-- A row of four, opened. -/
theorem own4 {B c : Nat} {w : World} {p : Option Addr} {xs : List Value} (h : w.ownsRow B 3 1 (.slice p 4 c) 4 xs) : ∃ b, p = some ⟨b, 0, none⟩ ∧ B ≤ b ∧ b < w.heap.size := by
  obtain ⟨b, c', e, _⟩ := own_form' h (by intro e; have := congrArg (fun v => match v with | .slice _ n _ => n | _ => 0) e; simp at this)
  cases e
  exact ⟨b, rfl, h.lt b rfl⟩

set_option maxHeartbeats 4000000 in
theorem l1Draw_any (W : World) (g K d : Nat) (w : World) (hr : Rd W g K w) (hK : K ≤ 90000) (hd : d ≤ 4) :
    Calls Try.prog 47 #[.pointer (some ⟨g, 0, none⟩), .int .i64 d] w fun e w' => (∃ p c k, ∃ xs : List Int, e = .returned (.agg #[.slice p 4 c, .int .i64 k]) ∧ xs.length = 4 ∧ w'.ownsRow w.heap.size 3 1 (.slice p 4 c) 4 (xs.map (Value.int .i64))) ∧ Rd W g (K + 5) w' ∧ Dr w g w' := by
  have hlg := hr.lt
  have HR := Lib.hid hr; clear hr
  go_enter Try.func47, Try.ntmps47
  go_wp2_with (fail)
  refine (num_any W g K (w.heap.size + 1) 8 [0, 1, -1, 2, 0, 5, -9, 99] _ (HR.out.ext (((Ext.refl w).alloc _).alloc _)) (by omega) rfl (by omega) (by omega) (blk_at (by simp)) (by omega)).mono ?_
  rintro e w1 ⟨⟨x, rfl, -⟩, h2, h3⟩
  have BR1 := blk_dr (blk_old (o := .cells ([0, 1, -1, 2, 0, 5, -9, 99].map (Value.int .i64)).toArray 3) (blk_at (w := w) (g := w.heap.size) (o := .cells #[.slice none 0 0, .int .i64 0] 36) rfl)) h3 (by omega)
  have hD1 : Dr w g w1 := (((Dr.refl w g).alloc _).alloc _).trans h3
  have hs1 := h3.size
  have H2 := Lib.hid h2; have HD1 := Lib.hid hD1; have HBR1 := Lib.hid BR1
  clear h2 h3 hD1 BR1 HR
  go_wp2_with (fail)
  refine (l1Const_any x w1).mono ?_
  rintro e w2 ⟨p, c, rfl, hv, hE⟩
  obtain ⟨gc, rfl, hgc1, hgc2⟩ := own4 hv
  have H3 := Lib.hid (H2.out.ext hE); have HD2 := Lib.hid (HD1.out.ext hE); have HBR2 := Lib.hid (hE.blk HBR1.out); have HV := Lib.hid (show w2.ownsRow w1.heap.size 3 1 (.slice (some ⟨gc, 0, none⟩) 4 c) 4 (([0, 0, 0, 0] : List Int).map (Value.int .i64)) from hv)
  have hs2 := hE.size_le
  simp only [World.size_alloc] at hs1
  clear hv hE H2 HD1 HBR1
  have HA2 : Hid ((w2.alloc (.cells #[.slice (some ⟨gc, 0, none⟩) 4 c, .int .i64 x] 36)).heap[w2.heap.size]? = some (.cells #[.slice (some ⟨gc, 0, none⟩) 4 c, .int .i64 x] 36 (0, 0))) := Lib.hid (blk_at rfl)
  go_wp2
  go_loopw [6] (fun i wr => ∃ k : Nat, k ≤ d ∧ i = .int .i64 k ∧ (∃ xs : List Int, xs.length = 4 ∧ wr.ownsRow w1.heap.size 3 1 (.slice (some ⟨gc, 0, none⟩) 4 c) 4 (xs.map (Value.int .i64))) ∧ Rd W g (K + 1 + k) wr ∧ Dr w g wr ∧ wr.heap[w.heap.size]? = some (.cells #[.slice none 0 0, .int .i64 0] 36 (0, 0)) ∧ wr.heap[w2.heap.size]? = some (.cells #[.slice (some ⟨gc, 0, none⟩) 4 c, .int .i64 x] 36 (0, 0))) (fun i _ => d - (intOf i).toNat)
  case atStart => exact ⟨0, by omega, rfl, ⟨_, rfl, HV.out.alloc _⟩, H3.out.ext ((Ext.refl w2).alloc _), HD2.out.alloc _, blk_old HBR2.out, HA2.out⟩
  case round =>
    clear HV H3 HD2 HBR2 HA2
    obtain ⟨k, hk, rfl, ⟨xs, hx4, hown⟩, hR, hD, hB, hA⟩ := hrel
    have hlgr := hR.lt
    have hszr := hD.size
    obtain ⟨a0, a1, -, -⟩ := blk2 hA
    have HO := Lib.hid hown; have HR := Lib.hid hR; have HD := Lib.hid hD; have HB := Lib.hid hB; have HA := Lib.hid hA; have HX := Lib.hid hx4
    clear hown hR hD hA hx4
    by_cases hlt : k < d
    · clear hB
      have hk0 : (0 : Int) ≤ (k : Int) := by omega
      have hk4 : (k : Int) < 4 := by omega
      have hkd : (k : Int) < (d : Int) := by omega
      have hwa := lt_of_block HA.out
      go_wp2_with (fail)
      have HLit : Hid (((wr.alloc (.cells #[.int .i64 0, .int .i64 1, .int .i64 0, .int .i64 (-1), .int .i64 2, .int .i64 0, .int .i64 9] 3)).drew).heap[wr.heap.size]? = some (.cells (([0, 1, 0, -1, 2, 0, 9] : List Int).map (Value.int .i64)).toArray 3 (0, 0))) := Lib.hid (blk_at rfl)
      go_region_held3 (fun W' => W'.cell? ⟨w2.heap.size, 0, none⟩ = some (.slice (some ⟨gc, 0, none⟩) 4 c))
        (first
          | exact a0
          | exact (((Ext.refl wr).alloc _).drew).keep a0
          | exact (((Ext.refl wr).drew).alloc _).keep a0
          | exact c3
          | exact (cell_setAt _ (by omega)).trans c3
          | fail)
        (first
          | (go_at_call 57; (with_reducible refine (num_any W g (K + 1 + k) wr.heap.size 7 [0, 1, 0, -1, 2, 0, 9] _ (HR.out.ext (((Ext.refl wr).alloc _).drew)) (by omega) rfl (by omega) (by omega) HLit.out (by omega)).mono ?_); rintro e w3 ⟨⟨y, rfl, -⟩, h4, h5⟩; have hrow := row_dr (w := (wr.alloc (.cells #[.int .i64 0, .int .i64 1, .int .i64 0, .int .i64 (-1), .int .i64 2, .int .i64 0, .int .i64 9] 3)).drew) (World.ownsRow.drew (World.ownsRow.alloc HO.out _)) h5 (by omega); have hf := hrow.frozenAt k; have hu' : ∃ u, w3.cell? ⟨gc, k, none⟩ = some u := (by rw [hrow.cellAt k (by omega)]; exact get_some (by rw [List.length_map, HX.out]; omega)); obtain ⟨u0, hu⟩ := hu'; have A3 := blk_dr (w := (wr.alloc (.cells #[.int .i64 0, .int .i64 1, .int .i64 0, .int .i64 (-1), .int .i64 2, .int .i64 0, .int .i64 9] 3)).drew) (blk_old HA.out) h5 (by omega); have c3 := (blk2 A3).1; have B3 := blk_dr (w := (wr.alloc (.cells #[.int .i64 0, .int .i64 1, .int .i64 0, .int .i64 (-1), .int .i64 2, .int .i64 0, .int .i64 9] 3)).drew) (blk_old HB.out) h5 (by omega); have D3 := ((HD.out.alloc (.cells #[.int .i64 0, .int .i64 1, .int .i64 0, .int .i64 (-1), .int .i64 2, .int .i64 0, .int .i64 9] 3)).drew).trans h5)
          | fail)
      have hst := hrow.stored k (.int .i64 y)
      rw [← List.map_set] at hst
      have H5 := Lib.hid (h4.beside hst.2 (fun b hb => by have hb' : gc = b := Option.some.inj hb; omega))
      have D5 := Lib.hid (D3.set (j := gc) (o := k) (by omega) (.int .i64 y))
      have B5 := Lib.hid (blk_offD (o' := k) (g' := gc) B3 (by omega) (.int .i64 y)); have A5 := Lib.hid (blk_offD (o' := k) (g' := gc) A3 (by omega) (.int .i64 y))
      have HS := Lib.hid hst.1
      clear hst hrow h4 h5 D3 B3 A3 c3 hf hu
      go_wp2
      go_roundw
      case rel => exact ⟨k + 1, by omega, by go_num, ⟨_, by rw [List.length_set]; exact HX.out, HS.out⟩, H5.out, D5.out, B5.out, A5.out⟩
      case measure => simp [intOf]; omega
    · obtain ⟨r0, r1, f0, f1⟩ := blk2 hB
      clear hB
      go_wp2
      refine bodyPost_ret (v := .agg #[.slice (some ⟨gc, 0, none⟩) 4 c, .int .i64 x]) (by simp [results, Try.results47, go_sem, r0, r1]) rfl ⟨⟨_, c, x, xs, rfl, HX.out, ?_⟩, ?_, ?_⟩
      · refine ownsRow_weak (B := w1.heap.size) ?_ (by omega)
        exact ownsRow_setCell_below (ownsRow_setCell_below HO.out (by show w.heap.size < _; omega) _) (by show w.heap.size < _; omega) _
      · exact ((HR.out.set (by omega) _).set (by omega) _).mono (by omega)
      · exact (HD.out.set (Nat.le_refl _) _).set (Nat.le_refl _) _
end Go.Proofs.Ytccibfldadflkaa
