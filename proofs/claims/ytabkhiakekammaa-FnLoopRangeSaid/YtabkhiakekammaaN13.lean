/- Contract: the model's range of a loop at a point. -/
import Derived.Test.YtabkhiakekammaaN12
namespace Go.Proofs.Ytabkhiakekammaa
open Go.RowKit

set_option maxHeartbeats 4000000 in
theorem l2Range_any (s t : Value) (x : Lp) (u : Value) (ps : List Int) (w : World) (hs : AffsAt w s x.1) (ht : AffsAt w t x.2) (hu : IntsAt w u ps) (h1 : sideOk x.1) (h2 : sideOk x.2) (hp : ptB ps = true) :
    Calls Try.prog 94 #[.agg #[s, t], u] w fun e w' => e = .returned (.tuple #[.int .i64 (loV x ps), .int .i64 (hiV x ps)]) ∧ Ext w w' := by
  obtain ⟨p, c, rfl, hm⟩ := hs.form
  obtain ⟨q, d, rfl, hm2⟩ := ht.form
  have HS := Lib.hid hs; have HT := Lib.hid ht; have HU := Lib.hid hu; have H1 := Lib.hid h1; have H2 := Lib.hid h2; have HP := Lib.hid hp; clear hs ht hu h1 h2 hp
  obtain ⟨pu, cu, rfl, hmu, -⟩ := HU.out
  obtain ⟨zs, ys⟩ := x
  dsimp only at *
  have HN : Hid ((zs.map (evalA ps)).length = zs.length) := Lib.hid (List.length_map _)
  have HN' : Hid ((ys.map (evalA ps)).length = ys.length) := Lib.hid (List.length_map _)
  obtain ⟨x0, hx0⟩ := get_some (xs := zs) (k := 0) H1.out.1
  obtain ⟨y0, hy0⟩ := get_some (xs := ys) (k := 0) H2.out.1
  have hvx := H1.out.2.2 x0 (List.mem_of_getElem? hx0)
  have hvy := H2.out.2.2 y0 (List.mem_of_getElem? hy0)
  have HX0 : Hid ((zs.map (evalA ps))[0]? = some (evalA ps x0)) := by show _ = _; rw [List.getElem?_map, hx0]; rfl
  have HY0 : Hid ((ys.map (evalA ps))[0]? = some (evalA ps y0)) := by show _ = _; rw [List.getElem?_map, hy0]; rfl
  obtain ⟨b, off, q1, m1, rfl, c0, c1, hb, hr⟩ := (HS.out.ext ((Ext.refl w).alloc (.cells #[.slice p zs.length c, .slice q ys.length d] 96))).elem hx0
  obtain ⟨b', off', q2, m2, rfl, e0, e1, hb', hr'⟩ := (HT.out.ext ((Ext.refl w).alloc (.cells #[.slice (some ⟨b, off, none⟩) zs.length c, .slice q ys.length d] 96))).elem hy0
  rw [Nat.zero_mul, Nat.add_zero] at c0 c1 e0 e1
  have HR := Lib.hid hr; have HR' := Lib.hid hr'; clear hr hr' hb hb'
  have HMX := Lib.hid (List.mem_of_getElem? hx0); have HMY := Lib.hid (List.mem_of_getElem? hy0); clear hx0 hy0
  obtain ⟨x1, x2⟩ := x0
  obtain ⟨y1, y2⟩ := y0
  dsimp only at *
  obtain ⟨xa, xb, xc, xd, rfl, -⟩ := valid_four hvx
  obtain ⟨ya, yb, yc, yd, rfl, -⟩ := valid_four hvy
  have HVX := Lib.hid hvx; have HVY := Lib.hid hvy; clear hvx hvy
  have hz0 := H1.out.1; have hz0' := H2.out.1
  have E0 : Ext w (w.alloc (.cells #[.slice (some ⟨b, off, none⟩) zs.length c, .slice (some ⟨b', off', none⟩) ys.length d] 96)) := (Ext.refl w).alloc _
  have HB0 : Hid ((w.alloc (.cells #[.slice (some ⟨b, off, none⟩) zs.length c, .slice (some ⟨b', off', none⟩) ys.length d] 96)).heap[w.heap.size]? = some (.cells #[.slice (some ⟨b, off, none⟩) zs.length c, .slice (some ⟨b', off', none⟩) ys.length d] 96 (0, 0))) := Lib.hid (blk_at rfl)
  have HE0 := Lib.hid E0; clear E0
  generalize hn : zs.length = n at *
  generalize hn' : ys.length = n' at *
  go_enter Try.func94, Try.ntmps94
  go_wp2_with (fail)
  refine (l1Eval_any xa xb xc xd x2 _ _ ps _ HR.out (HU.out.ext HE0.out) HVX.out HP.out).mono ?_
  rintro e W1 ⟨rfl, hE⟩
  have E1 := HE0.out.trans hE
  have HB1 := Lib.hid (hE.blk HB0.out)
  obtain ⟨a0, a1, -, -⟩ := blk2 HB1.out
  replace e0 := hE.keep e0
  replace e1 := hE.keep e1
  have HR2 := Lib.hid (HR'.out.ext hE)
  have HXE : Hid (evalA ps ([xa, xb, xc, xd], x2) = evalK [xa, xb, xc, xd] ps x2 ps.length) := Lib.hid rfl
  clear hE HE0 HB0 HR HR' c0 c1
  generalize evalK [xa, xb, xc, xd] ps x2 ps.length = lo0 at *
  go_wp2_with (fail)
  refine (l1Eval_any ya yb yc yd y2 _ _ ps _ HR2.out (HU.out.ext E1) HVY.out HP.out).mono ?_
  rintro e W2 ⟨rfl, hE⟩
  have E2 := E1.trans hE
  have HB2 := Lib.hid (hE.blk HB1.out)
  have HYE : Hid (evalA ps ([ya, yb, yc, yd], y2) = evalK [ya, yb, yc, yd] ps y2 ps.length) := Lib.hid rfl
  clear hE HB1 HR2 e0 e1 E1 a0 a1
  generalize evalK [ya, yb, yc, yd] ps y2 ps.length = hi0 at *
  have HE2 := Lib.hid E2; clear E2
  have HH0 : Hid (minL ((ys.map (evalA ps)).take 1) = hi0) := by show _ = _; rw [minL_one HY0.out, HYE.out]
  have HL0 : Hid (maxL ((zs.map (evalA ps)).take 1) = lo0) := by show _ = _; rw [maxL_one HX0.out, HXE.out]
  obtain ⟨a0, a1, -, -⟩ := blk2 HB2.out
  go_wp2
  clear a0 a1
  go_loopw [6, 8] (fun l i wr => ∃ k : Nat, 1 ≤ k ∧ k ≤ n ∧ i = .int .i64 k ∧ l = .int .i64 (maxL ((zs.map (evalA ps)).take k)) ∧ wr.heap[w.heap.size]? = some (.cells #[.slice (some ⟨b, off, none⟩) n c, .slice (some ⟨b', off', none⟩) n' d] 96 (0, 0)) ∧ Ext w wr) (fun _ i _ => n - (intOf i).toNat)
  case atStart => exact ⟨1, by omega, by omega, rfl, by rw [HL0.out], HB2.out, HE2.out⟩
  case round =>
    obtain ⟨k, hk1, hk, rfl, rfl, hB, hE⟩ := hrel
    have HB := Lib.hid hB
    obtain ⟨a0, a1, -, -⟩ := blk2 hB
    clear hB
    by_cases hlt : k < n
    · obtain ⟨x, hx⟩ := get_some (xs := zs) (k := k) (by rw [hn]; exact hlt)
      obtain ⟨bx, offx, q1, m1, ee, c0, c1, hb, hr⟩ := (HS.out.ext hE).elem hx
      cases ee
      have hva := H1.out.2.2 x (List.mem_of_getElem? hx)
      have hM := maxL_take (l := zs.map (evalA ps)) (k := k) (v := evalA ps x) (by omega) (by rw [List.getElem?_map, hx]; rfl)
      obtain ⟨x1, x2'⟩ := x
      dsimp only at *
      obtain ⟨va, vb, vc, vd, rfl, -⟩ := valid_four hva
      have HXE2 : Hid (evalA ps ([va, vb, vc, vd], x2') = evalK [va, vb, vc, vd] ps x2' ps.length) := Lib.hid rfl
      have HM := Lib.hid hM; have HR := Lib.hid hr; have HVA := Lib.hid hva; clear hx hr hva hM hb
      go_wp2_with (fail)
      refine (l1Eval_any va vb vc vd x2' _ _ ps _ HR.out (HU.out.ext hE) HVA.out HP.out).mono ?_
      rintro e W3 ⟨rfl, hE3⟩
      rw [HXE2.out] at HM
      clear c0 c1 a0 a1 HXE2
      generalize evalK [va, vb, vc, vd] ps x2' ps.length = v at *
      generalize maxL ((zs.map (evalA ps)).take k) = m at *
      by_cases hlm : m < v
      · go_wp2
        go_roundw
        case rel => exact ⟨k + 1, by omega, by omega, by go_num, by rw [HM.out, if_pos (by omega)], hE3.blk HB.out, hE.trans hE3⟩
        case measure => simp [intOf]; omega
      · go_wp2
        go_roundw
        case rel => exact ⟨k + 1, by omega, by omega, by go_num, by rw [HM.out, if_neg (by omega)], hE3.blk HB.out, hE.trans hE3⟩
        case measure => simp [intOf]; omega
    · have e : k = n := by omega
      subst e
      have HLo : Hid (maxL ((zs.map (evalA ps)).take k) = loV (zs, ys) ps) := by show _ = _; rw [List.take_of_length_le (by rw [HN.out]; omega)]; rfl
      rw [HLo.out]
      go_wp2
      clear a0 a1 HLo HL0
      go_loopw [7, 10] (fun l i wr' => ∃ k' : Nat, 1 ≤ k' ∧ k' ≤ n' ∧ i = .int .i64 k' ∧ l = .int .i64 (minL ((ys.map (evalA ps)).take k')) ∧ wr'.heap[w.heap.size]? = some (.cells #[.slice (some ⟨b, off, none⟩) k c, .slice (some ⟨b', off', none⟩) n' d] 96 (0, 0)) ∧ Ext w wr') (fun _ i _ => n' - (intOf i).toNat)
      case atStart => exact ⟨1, by omega, by omega, rfl, by rw [HH0.out], HB.out, hE⟩
      case round =>
        clear hE HB
        obtain ⟨k', hk1', hk', rfl, rfl, hB, hE⟩ := hrel
        have HB := Lib.hid hB
        obtain ⟨a0, a1, -, -⟩ := blk2 hB
        clear hB
        by_cases hlt' : k' < n'
        · obtain ⟨x, hx⟩ := get_some (xs := ys) (k := k') (by rw [hn']; exact hlt')
          obtain ⟨bx, offx, q1, m1, ee, c0, c1, hb, hr⟩ := (HT.out.ext hE).elem hx
          cases ee
          have hva := H2.out.2.2 x (List.mem_of_getElem? hx)
          have hM := minL_take (l := ys.map (evalA ps)) (k := k') (v := evalA ps x) (by omega) (by rw [List.getElem?_map, hx]; rfl)
          obtain ⟨x1, x2'⟩ := x
          dsimp only at *
          obtain ⟨va, vb, vc, vd, rfl, -⟩ := valid_four hva
          have HXE2 : Hid (evalA ps ([va, vb, vc, vd], x2') = evalK [va, vb, vc, vd] ps x2' ps.length) := Lib.hid rfl
          have HM := Lib.hid hM; have HR := Lib.hid hr; have HVA := Lib.hid hva; clear hx hr hva hM hb
          go_wp2_with (fail)
          refine (l1Eval_any va vb vc vd x2' _ _ ps _ HR.out (HU.out.ext hE) HVA.out HP.out).mono ?_
          rintro e W3 ⟨rfl, hE3⟩
          rw [HXE2.out] at HM
          clear c0 c1 a0 a1 HXE2
          generalize evalK [va, vb, vc, vd] ps x2' ps.length = v at *
          generalize minL ((ys.map (evalA ps)).take k') = m at *
          by_cases hlm : v < m
          · go_wp2
            go_roundw
            case rel => exact ⟨k' + 1, by omega, by omega, by go_num, by rw [HM.out, if_pos (by omega)], hE3.blk HB.out, hE.trans hE3⟩
            case measure => simp [intOf]; omega
          · go_wp2
            go_roundw
            case rel => exact ⟨k' + 1, by omega, by omega, by go_num, by rw [HM.out, if_neg (by omega)], hE3.blk HB.out, hE.trans hE3⟩
            case measure => simp [intOf]; omega
        · have e : k' = n' := by omega
          subst e
          have HHi : Hid (minL ((ys.map (evalA ps)).take k') = hiV (zs, ys) ps) := by show _ = _; rw [List.take_of_length_le (by rw [HN'.out]; omega)]; rfl
          rw [HHi.out]
          go_wp2
          exact bodyPost_ret (v := .tuple #[.int .i64 (loV (zs, ys) ps), .int .i64 (hiV (zs, ys) ps)]) (by simp [results, Try.results94, go_sem]) rfl ⟨rfl, hE⟩
end Go.Proofs.Ytabkhiakekammaa
