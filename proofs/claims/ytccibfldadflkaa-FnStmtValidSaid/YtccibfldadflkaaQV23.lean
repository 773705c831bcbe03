/- The texts S13, joined. No statement is proved here. -/
import Derived.Test.YtccibfldadflkaaQV48
import Derived.Test.YtccibfldadflkaaQV22
import Derived.Test.YtccibfldadflkaaQV46
import Derived.Maps.AppendAt
/- The program's elements: accesses with linear subscripts. No statement is proved here. -/
namespace Go.Proofs.Ytccibfldadflkaa
open Go.RowKit

theorem accB_no {arr : ByteArray} {subs : List Aff} {d : Int} (h : subs.all (boundB d) = false ∨ arrB arr = false ∨ ¬ (1 ≤ subs.length ∧ subs.length ≤ 2)) : accB arr subs d = false := by
  rcases h with h | h | h
  · simp [accB, h]
  · simp [accB, h]
  · unfold accB; rw [decide_eq_false h]; simp

set_option maxRecDepth 100000 in
set_option maxHeartbeats 2000000 in
theorem elementOf_any (arr : ByteArray) (s : Value) (subs : List Aff) (dd : Int) (w : World) (ha : arr.size ≤ 9223372036854775807) (hs : AffsAt w s subs) :
    Calls Try.prog 88 #[.agg #[.string arr, s], .int .i64 dd] w fun e w' => (∃ a' p' n' c', e = .returned (.tuple #[.agg #[.string a', .slice p' n' c'], .bool (accB arr subs dd)]) ∧ (accB arr subs dd = true → a' = arr ∧ LinsOwn w.heap.size w' (.slice p' n' c') subs)) ∧ Ext w w' := by
  obtain ⟨p, c, rfl, hm⟩ := hs.form
  have HS := Lib.hid hs; clear hs
  generalize hn : subs.length = n at *
  have HN := Lib.hid hn; clear hn
  cases hA : arrB arr with
  | false =>
    have HA := Lib.hid hA; clear hA
    have HR : Hid (accB arr subs dd = false) := Lib.hid (accB_no (.inr (.inl HA.out)))
    go_enter Try.func88, Try.ntmps88
    go_wp2_with (fail)
    refine (arrayValid_any arr _ ha).mono ?_
    rw [HA.out]
    rintro e w1 ⟨rfl, rfl⟩
    go_wp2
    exact bodyPost_ret (v := .tuple #[.agg #[.string ⟨#[]⟩, .slice none 0 0], .bool false]) (by simp [results, Try.results88, go_sem]) rfl ⟨⟨_, _, _, _, by rw [HR.out], fun h => by rw [HR.out] at h; cases h⟩, ((Ext.refl w).alloc _).alloc _⟩
  | true =>
    have HA := Lib.hid hA; clear hA
    by_cases h12 : 1 ≤ n ∧ n ≤ 2
    · have hb1 : decide ((n : Int) < 1) = false := by simp; omega
      have hb2 : decide ((2 : Int) < n) = false := by simp; omega
      obtain ⟨hn1, hn2⟩ := h12
      go_enter Try.func88, Try.ntmps88
      go_wp2_with (fail)
      refine (arrayValid_any arr _ ha).mono ?_
      rw [HA.out]
      rintro e w1 ⟨rfl, rfl⟩
      go_wp2
      obtain ⟨W0, hW0⟩ : ∃ W0, ((w.alloc (.cells #[.string arr, .slice p n c] 51)).alloc (.cells #[.string ⟨#[]⟩, .slice none 0 0] 105)).alloc (.cells #[.string arr, .slice none 0 0] 105) = W0 := ⟨_, rfl⟩
      have G1 : W0.heap[w.heap.size + 1]? = some (.cells #[.string ⟨#[]⟩, .slice none 0 0] 105 (0, 0)) := by rw [← hW0]; exact blk_old (blk_at (by simp))
      have G2 : W0.heap[w.heap.size + 1 + 1]? = some (.cells #[.string arr, .slice none 0 0] 105 (0, 0)) := by rw [← hW0]; exact blk_at (by simp)
      have HS0 : Hid (W0.heap.size = w.heap.size + 3) := Lib.hid (by rw [← hW0]; simp)
      have E0 : Hid (Ext w W0) := Lib.hid (by rw [← hW0]; exact (((Ext.refl w).alloc _).alloc _).alloc _)
      rw [hW0]
      clear hW0
      obtain ⟨i0, hi, hz0, hz1, hz2⟩ := info_parts infoLin
      generalize hga : w.heap.size = ga at *
      have HGA := Lib.hid hga; have HG1 := Lib.hid G1; have HG2 := Lib.hid G2
      clear hga G1 G2
      go_loopw [34] (fun i wr => ∃ k : Nat, k ≤ n ∧ i = .int .i64 k ∧ (subs.take k).all (boundB dd) = true ∧ (∃ v, wr.heap[ga + 1 + 1]? = some (.cells #[.string arr, v] 105 (0, 0)) ∧ LinsOwn (ga + 3) wr v (subs.take k)) ∧ wr.heap[ga + 1]? = some (.cells #[.string ⟨#[]⟩, .slice none 0 0] 105 (0, 0)) ∧ ga + 3 ≤ wr.heap.size ∧ Ext w wr) (fun i _ => n - (intOf i).toNat)
      case atStart => exact ⟨0, by omega, rfl, by simp, ⟨_, HG2.out, by simpa using LinsOwn.nil _ _⟩, HG1.out, by rw [HS0.out]; omega, E0.out⟩
      case round =>
        obtain ⟨k, hk, rfl, hall, ⟨v, hB2, hL⟩, hB1, hsz, hE⟩ := hrel
        have htl : (subs.take k).length = k := by rw [List.length_take, HN.out]; omega
        obtain ⟨pv, cv, rfl⟩ := hL.form
        have hL1 := hL.1
        have HLA : Hid (∀ x ∈ subs.take k, affValidB x.1 x.2 = true) := Lib.hid hL.2
        rw [htl] at hL1 hB2
        have HL1 := Lib.hid hL1; have HTL := Lib.hid htl; have HA2 := Lib.hid hall; have HB1 := Lib.hid hB1; have HB2 := Lib.hid hB2; have HE := Lib.hid hE
        clear htl hL hL1 hall hB1 hB2 hE
        by_cases hlt : k < n
        · obtain ⟨x, hx⟩ := get_some (xs := subs) (k := k) (by rw [HN.out]; exact hlt)
          obtain ⟨b, off, q, m, rfl, c0, c1, hb, hr⟩ := (HS.out.ext HE.out).elem hx
          have HX := Lib.hid hx; have HR := Lib.hid hr; clear hx hr
          have ES : Hid (Ext wr (wr.alloc (.cells #[.slice q x.1.length m, .int .i64 x.2] 36))) := Lib.hid ((Ext.refl wr).alloc _)
          obtain ⟨bb, hbb⟩ : ∃ bb, boundB dd x = bb := ⟨_, rfl⟩
          have HBB := Lib.hid hbb; clear hbb
          go_wp2_with (fail)
          refine (linearWithin_any _ x.1 x.2 dd _ (HR.out.ext ES.out)).mono ?_
          rw [show boundB dd (x.1, x.2) = bb from HBB.out]
          rintro e W2 ⟨⟨a0, a1, a2, a3, a4, rfl, hval⟩, hE2⟩
          have HVAL := Lib.hid hval; have E2 := Lib.hid (ES.out.trans hE2)
          have hs2 := E2.out.size_le
          clear hval hE2 c0 c1
          have C1 := Lib.hid (E2.out.blk HB1.out); have C2 := Lib.hid (E2.out.blk HB2.out)
          cases bb with
          | false =>
            have HRF : Hid (accB arr subs dd = false) := Lib.hid (accB_no (.inl (all_false_of (p := boundB dd) HX.out HBB.out)))
            obtain ⟨z0, z1, z2, z3⟩ := blk2 C1.out
            have hl1 : ga + 1 < W2.heap.size := by omega
            have E3 := Lib.hid (HE.out.trans E2.out)
            go_wp2
            obtain ⟨WF, hWF⟩ : ∃ WF, (((W2.setCell ⟨ga + 1, 0, none⟩ (.string ⟨#[]⟩)).setCell ⟨ga + 1, 1, none⟩ (.slice none 0 0)).alloc (.cells #[.int .i64 a0, .int .i64 a1, .int .i64 a2, .int .i64 a3, .int .i64 a4] 79)) = WF := ⟨_, rfl⟩
            have EF : Ext w WF := by rw [← hWF]; exact ((E3.out.setCell (by rw [HGA.out]; exact Nat.le_succ _) _).setCell (by rw [HGA.out]; exact Nat.le_succ _) _).alloc _
            obtain ⟨f0, f1, -, -⟩ := blk2 (W := WF) (g := ga + 1) (by rw [← hWF]; exact blk_old (blk2_set C1.out))
            rw [hWF]
            clear hWF
            exact bodyPost_ret (v := .tuple #[.agg #[.string ⟨#[]⟩, .slice none 0 0], .bool false]) (by simp [results, Try.results88, go_sem, f0, f1]) rfl ⟨⟨_, _, _, _, by rw [HRF.out], fun h => by rw [HRF.out] at h; cases h⟩, EF⟩
          | true =>
            obtain ⟨y0, y1, y2, y3⟩ := blk2 C2.out
            have hl2 : ga + 1 + 1 < W2.heap.size := by omega
            have hl1 : ga + 1 < W2.heap.size := by omega
            obtain ⟨W3, hW3⟩ : ∃ W3, ((W2.alloc (.cells #[.int .i64 a0, .int .i64 a1, .int .i64 a2, .int .i64 a3, .int .i64 a4] 79)).alloc (.cells #[.int .i64 a0, .int .i64 a1, .int .i64 a2, .int .i64 a3, .int .i64 a4] 79)) = W3 := ⟨_, rfl⟩
            have EX : Ext wr W3 := by rw [← hW3]; exact (E2.out.alloc _).alloc _
            have EX2 : Ext W2 W3 := by rw [← hW3]; exact ((Ext.refl W2).alloc _).alloc _
            have K3 : ∀ q u, [Value.int .i64 a0, .int .i64 a1, .int .i64 a2, .int .i64 a3, .int .i64 a4][q]? = some u → W3.cell? ((⟨W2.heap.size + 1, 0, none⟩ : Addr).add q) = some u := by
              intro q u hq
              rw [← hW3]
              match q, hq with
              | 0, hq => simp at hq; subst hq; simp [Addr.add, go_sem]
              | 1, hq => simp at hq; subst hq; simp [Addr.add, go_sem]
              | 2, hq => simp at hq; subst hq; simp [Addr.add, go_sem]
              | 3, hq => simp at hq; subst hq; simp [Addr.add, go_sem]
              | 4, hq => simp at hq; subst hq; simp [Addr.add, go_sem]
            have hs3 := EX2.size_le
            have HO := Lib.hid (ownsRow_ext HL1.out EX)
            have HHW3 := Lib.hid hW3; have HK3 := Lib.hid K3
            have D1 := Lib.hid (EX2.blk C1.out); have D2 := Lib.hid (EX2.blk C2.out)
            have EWX := Lib.hid (HE.out.trans EX)
            have hav : affValidB x.1 x.2 = true := by have h := HBB.out; simp only [boundB, Bool.and_eq_true] at h; exact h.1
            have HXE := Lib.hid (HVAL.out hav); have HAV := Lib.hid hav
            clear hW3 K3 EX EX2 hav
            go_wp2_with (at_builtin; rw [HHW3.out]; refine wpList_append_own_at _ rfl (.tmp 48) (.tmp 50) 103 rfl (ga + 3) 79 i0 (.agg #[.int .i64 0, .int .i64 0, .int .i64 0, .int .i64 0, .int .i64 0]) 5 40 Try.underlying103 hi hz0 hz1 hz2 rfl (by decide) (.slice pv k cv) k _ rfl HO.out ⟨W2.heap.size + 1, 0, none⟩ 1 1 [.int .i64 a0, .int .i64 a1, .int .i64 a2, .int .i64 a3, .int .i64 a4] rfl rfl HK3.out ?c2 ?c3 ?c4 ?c5 ?_)
            case c2 => intro u hu; simp at hu; rcases hu with rfl | rfl | rfl | rfl | rfl <;> rfl
            case c3 => unfold maxLen; omega
            case c4 => omega
            case c5 => omega
            intro v' w4 hown' hgrow _ _
            obtain ⟨p', c', rfl⟩ : ∃ p' c', v' = .slice p' (k + 1) c' := by
              rcases hown'.2 with ⟨rfl, hn0⟩ | ⟨g, cap, cur, e, _⟩
              · exact absurd hn0 (by omega)
              · exact ⟨_, cap, e⟩
            have keep : ∀ (j : Nat) (o : Obj), j < ga + 3 → W3.heap[j]? = some o → w4.heap[j]? = some o := fun j o hj h => (hgrow.block j (lt_of_block h) (fun e => by have := (HO.out.lt j e.symm).1; omega)).trans h
            have F1 := Lib.hid (keep _ _ (by omega) D1.out); have F2 := Lib.hid (keep _ _ (by omega) D2.out)
            have E4 : Hid (Ext w w4) := Lib.hid (EWX.out.grown hgrow (fun j e => by have := (HO.out.lt j e).1; rw [HGA.out]; omega))
            have hs4 := hgrow.size
            obtain ⟨v0, v1, v2, v3⟩ := blk2 F2.out
            have HOW : Hid (LinsOwn (ga + 3) (w4.setCell ⟨ga + 1 + 1, 1, none⟩ (.slice p' (k + 1) c')) (.slice p' (k + 1) c') (subs.take (k + 1))) := Lib.hid (by
              refine LinsOwn.setOld ⟨?_, ?_⟩ (by simp) _
              · rw [take_next HX.out, List.length_append, HTL.out]
                have e : lins (subs.take k ++ [x]) = lins (subs.take k) ++ [.int .i64 a0, .int .i64 a1, .int .i64 a2, .int .i64 a3, .int .i64 a4] := by
                  unfold lins
                  rw [List.flatMap_append]
                  have h1 := HXE.out.1
                  have h2 := HXE.out.2
                  subst h2
                  simp [lin5, h1]
                rw [e]
                exact hown'
              · intro y hy
                rw [take_next HX.out] at hy
                rcases List.mem_append.1 hy with h | h
                · exact HLA.out y h
                · simp at h; subst h; exact HAV.out)
            clear keep hown' hgrow y0 y1 y2 y3
            go_wp2
            go_roundw
            case rel => exact ⟨k + 1, by omega, by go_num, all_take_next HX.out HA2.out HBB.out, ⟨_, blk2_set1'' F2.out _, HOW.out⟩, blk_off F1.out (by omega) _, by simp; omega, E4.out.setCell (by rw [HGA.out]; simp; omega) _⟩
            case measure => simp [intOf]; omega
        · obtain rfl : k = n := by omega
          obtain ⟨y0, y1, y2, y3⟩ := blk2 HB2.out
          obtain ⟨z0, z1, z2, z3⟩ := blk2 HB1.out
          have hal : subs.take k = subs := List.take_of_length_le (by rw [HN.out]; omega)
          have HAL := Lib.hid hal
          have HRT : Hid (accB arr subs dd = true) := Lib.hid (by
            have h := HA2.out
            rw [HAL.out] at h
            simp only [accB, h, HA.out, HN.out, Bool.true_and, decide_eq_true_eq]
            omega)
          have HLF : Hid (LinsOwn ga ((wr.setCell ⟨ga + 1, 0, none⟩ (.string arr)).setCell ⟨ga + 1, 1, none⟩ (.slice pv k cv)) (.slice pv k cv) subs) := Lib.hid (by
            have h := HL1.out
            have h2 := HLA.out
            rw [HAL.out] at h h2
            have h3 : LinsOwn (ga + 3) wr (.slice pv k cv) subs := ⟨by rw [HN.out]; exact h, h2⟩
            exact LinsOwn.weak ((h3.setOld (p := ⟨ga + 1, 0, none⟩) (by simp) _).setOld (p := ⟨ga + 1, 1, none⟩) (by simp) _) (by omega))
          have EF : Hid (Ext w ((wr.setCell ⟨ga + 1, 0, none⟩ (.string arr)).setCell ⟨ga + 1, 1, none⟩ (.slice pv k cv))) := Lib.hid ((HE.out.setCell (by rw [HGA.out]; simp) _).setCell (by rw [HGA.out]; simp) _)
          clear hal
          go_wp2
          obtain ⟨WF, hWF⟩ : ∃ WF, ((wr.setCell ⟨ga + 1, 0, none⟩ (.string arr)).setCell ⟨ga + 1, 1, none⟩ (.slice pv k cv)) = WF := ⟨_, rfl⟩
          obtain ⟨f0, f1, -, -⟩ := blk2 (W := WF) (g := ga + 1) (by rw [← hWF]; exact blk2_set HB1.out)
          have HLG := HLF.out; have EG := EF.out
          rw [hWF] at HLG EG ⊢
          clear hWF
          exact bodyPost_ret (v := .tuple #[.agg #[.string arr, .slice pv k cv], .bool true]) (by simp [results, Try.results88, go_sem, f0, f1]) rfl ⟨⟨_, _, _, _, by rw [HRT.out], fun _ => ⟨rfl, by rw [HGA.out]; exact HLG⟩⟩, EG⟩
    · have hnb : (decide ((n : Int) < 1) || decide ((2 : Int) < n)) = true := by simp; omega
      have HR : Hid (accB arr subs dd = false) := Lib.hid (accB_no (.inr (.inr (by rw [HN.out]; exact h12))))
      by_cases h1 : n < 1
      · have hb1 : decide ((n : Int) < 1) = true := by simp; omega
        clear h12 hnb
        go_enter Try.func88, Try.ntmps88
        go_wp2_with (fail)
        refine (arrayValid_any arr _ ha).mono ?_
        rw [HA.out]
        rintro e w1 ⟨rfl, rfl⟩
        go_wp2
        exact bodyPost_ret (v := .tuple #[.agg #[.string ⟨#[]⟩, .slice none 0 0], .bool false]) (by simp [results, Try.results88, go_sem]) rfl ⟨⟨_, _, _, _, by rw [HR.out], fun h => by rw [HR.out] at h; cases h⟩, ((Ext.refl w).alloc _).alloc _⟩
      · have hb1 : decide ((n : Int) < 1) = false := by simp; omega
        have hb2 : decide ((2 : Int) < n) = true := by simp; omega
        clear h12 hnb
        go_enter Try.func88, Try.ntmps88
        go_wp2_with (fail)
        refine (arrayValid_any arr _ ha).mono ?_
        rw [HA.out]
        rintro e w1 ⟨rfl, rfl⟩
        go_wp2
        exact bodyPost_ret (v := .tuple #[.agg #[.string ⟨#[]⟩, .slice none 0 0], .bool false]) (by simp [results, Try.results88, go_sem]) rfl ⟨⟨_, _, _, _, by rw [HR.out], fun h => by rw [HR.out] at h; cases h⟩, ((Ext.refl w).alloc _).alloc _⟩
end Go.Proofs.Ytccibfldadflkaa
