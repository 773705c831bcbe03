/- The texts S13, joined. No statement is proved here. -/
import Derived.Test.YtklehkkclojccaaGreatQL26
import Derived.Test.YtklehkkclojccaaGreatQL36
import Derived.Maps.AppendAt
set_option maxRecDepth 100000
set_option maxHeartbeats 8000000
set_option linter.unusedVariables false
set_option linter.unusedSimpArgs false
namespace Go.Proofs.YtklehkkclojccaaGreat
open Go.Lib (hid)
open Go.RowKit
theorem jY32 {arr : ByteArray} {subs : List Aff} {d : Int} (h : subs.all (boundB d) = false \/ arrB arr = false \/ ¬ (1 <= subs.length /\ subs.length <= 2)) : accB arr subs d = false := by
 rcases h with h | h | h
 ·simp [accB, h]
 ·simp [accB, h]
 ·unfold accB; rw [decide_eq_false h]; simp
theorem jWt (arr : ByteArray) (s : Value) (subs : List Aff) (dd : Int) (w : World) (ha : arr.size <= 9223372036854775807) (hs : AffsAt w s subs) :
  Calls Tryz.prog 275 #[.agg #[.string arr, s], .int .i64 dd] w fun e w' => (∃ a' p' n' c', e = .returned (.tuple #[.agg #[.string a', .slice p' n' c'], .bool (accB arr subs dd)]) /\ (accB arr subs dd = true -> a' = arr /\ jZe w.heap.size w' (.slice p' n' c') subs)) /\ Ext w w' := by
 obtain ⟨p, c, rfl, hm⟩ := hs.form
 have HS := hid hs; clear hs
 generalize hn : subs.length = n at *
 have HN := hid hn; clear hn
 cases hA : arrB arr with
 | false =>
  have HA := hid hA; clear hA; have HR : Hid (accB arr subs dd = false) := hid (jY32 (.inr (.inl HA.o)))
  go_enter Tryz.func275, Tryz.ntmps275
  go_wp2_with (fail); refine (jZW arr _ ha).mono ?_; rw [HA.o]; rintro e w1 ⟨rfl, rfl⟩; go_wp2; exact bodyPost_ret (v := .tuple #[.agg #[.string ⟨#[]⟩, .slice none 0 0], .bool false]) (by simp [results, Tryz.results275, go_sem]) rfl ⟨⟨_, _, _, _, by rw [HR.o], fun h => by rw [HR.o] at h; cases h⟩, ((Ext.refl w).alloc _).alloc _⟩
 | true =>
  have HA := hid hA; clear hA; by_cases h12 : 1 <= n /\ n <= 2
  ·have hb1 : decide ((n : Int) < 1) = false := by simp; omega
   have hb2 : decide ((2 : Int) < n) = false := by simp; omega
   obtain ⟨hn1, hn2⟩ := h12
   go_enter Tryz.func275, Tryz.ntmps275
   go_wp2_with (fail); refine (jZW arr _ ha).mono ?_; rw [HA.o]; rintro e w1 ⟨rfl, rfl⟩; go_wp2; obtain ⟨W0, hW0⟩ : ∃ W0, ((w.alloc (.cells #[.string arr, .slice p n c] 174)).alloc (.cells #[.string ⟨#[]⟩, .slice none 0 0] 159)).alloc (.cells #[.string arr, .slice none 0 0] 159) = W0 := ⟨_, rfl⟩; have G1 : W0.heap[w.heap.size + 1]? = some (.cells #[.string ⟨#[]⟩, .slice none 0 0] 159 (0, 0)) := by rw [<- hW0]; exact jZ4 (blk_at (by simp))
   have G2 : W0.heap[w.heap.size + 1 + 1]? = some (.cells #[.string arr, .slice none 0 0] 159 (0, 0)) := by rw [<- hW0]; exact blk_at (by simp)
   have HS0 : Hid (W0.heap.size = w.heap.size + 3) := hid (by rw [<- hW0]; simp); have E0 : Hid (Ext w W0) := hid (by rw [<- hW0]; exact (((Ext.refl w).alloc _).alloc _).alloc _); rw [hW0]; clear hW0; obtain ⟨i0, hi, hz0, hz1, hz2⟩ := info_parts jY5k; generalize hga : w.heap.size = ga at *; have HGA := hid hga; have HG1 := hid G1; have HG2 := hid G2; clear hga G1 G2
   go_loopw [34] (fun i wr => ∃ k : Nat, k <= n /\ i = .int .i64 k /\ (subs.take k).all (boundB dd) = true /\ (∃ v, wr.heap[ga + 1 + 1]? = some (.cells #[.string arr, v] 159 (0, 0)) /\ jZe (ga + 3) wr v (subs.take k)) /\ wr.heap[ga + 1]? = some (.cells #[.string ⟨#[]⟩, .slice none 0 0] 159 (0, 0)) /\ ga + 3 <= wr.heap.size /\ Ext w wr) (fun i _ => n - (intOf i).toNat)
   case atStart => exact ⟨0, by omega, rfl, by simp, ⟨_, HG2.o, by simpa using jZe.nil _ _⟩, HG1.o, by rw [HS0.o]; omega, E0.o⟩
   case round =>
    obtain ⟨k, hk, rfl, hall, ⟨v, hB2, hL⟩, hB1, hsz, hE⟩ := hrel; have htl : (subs.take k).length = k := by rw [List.length_take, HN.o]; omega
    obtain ⟨pv, cv, rfl⟩ := hL.form; have hL1 := hL.1; have HLA : Hid (∀ x ∈ subs.take k, jZ5 x.1 x.2 = true) := hid hL.2; rw [htl] at hL1 hB2; have HL1 := hid hL1; have HTL := hid htl; have HA2 := hid hall; have HB1 := hid hB1; have HB2 := hid hB2; have HE := hid hE; clear htl hL hL1 hall hB1 hB2 hE; by_cases hlt : k < n
    ·obtain ⟨x, hx⟩ := jZ0 (xs := subs) (k := k) (by rw [HN.o]; exact hlt)
     obtain ⟨b, off, q, m, rfl, c0, c1, hb, hr⟩ := (HS.o.ext HE.o).elem hx; have HX := hid hx; have HR := hid hr; clear hx hr; have ES : Hid (Ext wr (wr.alloc (.cells #[.slice q x.1.length m, .int .i64 x.2] 176))) := hid ((Ext.refl wr).alloc _); obtain ⟨bb, hbb⟩ : ∃ bb, boundB dd x = bb := ⟨_, rfl⟩; have HBB := hid hbb; clear hbb; go_wp2_with (fail); refine (jX0 _ x.1 x.2 dd _ (HR.o.ext ES.o)).mono ?_; rw [show boundB dd (x.1, x.2) = bb from HBB.o]; rintro e W2 ⟨⟨a0, a1, a2, a3, a4, rfl, hval⟩, hE2⟩; have HVAL := hid hval; have E2 := hid (ES.o.trans hE2); have hs2 := E2.o.size_le; clear hval hE2 c0 c1; have C1 := hid (E2.o.blk HB1.o); have C2 := hid (E2.o.blk HB2.o); cases bb with
     | false =>
      have HRF : Hid (accB arr subs dd = false) := hid (jY32 (.inl (jZa (p := boundB dd) HX.o HBB.o))); obtain ⟨z0, z1, z2, z3⟩ := blk2 C1.o; have hl1 : ga + 1 < W2.heap.size := by omega
      have E3 := hid (HE.o.trans E2.o); go_wp2; obtain ⟨WF, hWF⟩ : ∃ WF, (((W2.setCell ⟨ga + 1, 0, none⟩ (.string ⟨#[]⟩)).setCell ⟨ga + 1, 1, none⟩ (.slice none 0 0)).alloc (.cells #[.int .i64 a0, .int .i64 a1, .int .i64 a2, .int .i64 a3, .int .i64 a4] 337)) = WF := ⟨_, rfl⟩; have EF : Ext w WF := by rw [<- hWF]; exact ((E3.o.setCell (by rw [HGA.o]; exact Nat.le_succ _) _).setCell (by rw [HGA.o]; exact Nat.le_succ _) _).alloc _
      obtain ⟨f0, f1, -, -⟩ := blk2 (W := WF) (g := ga + 1) (by rw [<- hWF]; exact jZ4 (jZI C1.o)); rw [hWF]; clear hWF; exact bodyPost_ret (v := .tuple #[.agg #[.string ⟨#[]⟩, .slice none 0 0], .bool false]) (by simp [results, Tryz.results275, go_sem, f0, f1]) rfl ⟨⟨_, _, _, _, by rw [HRF.o], fun h => by rw [HRF.o] at h; cases h⟩, EF⟩
     | true =>
      obtain ⟨y0, y1, y2, y3⟩ := blk2 C2.o; have hl2 : ga + 1 + 1 < W2.heap.size := by omega
      have hl1 : ga + 1 < W2.heap.size := by omega
      obtain ⟨W3, hW3⟩ : ∃ W3, ((W2.alloc (.cells #[.int .i64 a0, .int .i64 a1, .int .i64 a2, .int .i64 a3, .int .i64 a4] 337)).alloc (.cells #[.int .i64 a0, .int .i64 a1, .int .i64 a2, .int .i64 a3, .int .i64 a4] 337)) = W3 := ⟨_, rfl⟩; have EX : Ext wr W3 := by rw [<- hW3]; exact (E2.o.alloc _).alloc _
      have EX2 : Ext W2 W3 := by rw [<- hW3]; exact ((Ext.refl W2).alloc _).alloc _
      have K3 : ∀ q u, [Value.int .i64 a0, .int .i64 a1, .int .i64 a2, .int .i64 a3, .int .i64 a4][q]? = some u -> W3.cell? ((⟨W2.heap.size + 1, 0, none⟩ : Addr).add q) = some u := by
       intro q u hq; rw [<- hW3]
       match q, hq with
       | 0, hq => simp at hq; subst hq; simp [Addr.add, go_sem]
       | 1, hq => simp at hq; subst hq; simp [Addr.add, go_sem]
       | 2, hq => simp at hq; subst hq; simp [Addr.add, go_sem]
       | 3, hq => simp at hq; subst hq; simp [Addr.add, go_sem]
       | 4, hq => simp at hq; subst hq; simp [Addr.add, go_sem]
      have hs3 := EX2.size_le; have HO := hid (jZ3 HL1.o EX); have HHW3 := hid hW3; have HK3 := hid K3; have D1 := hid (EX2.blk C1.o); have D2 := hid (EX2.blk C2.o); have EWX := hid (HE.o.trans EX); have hav : jZ5 x.1 x.2 = true := by have h := HBB.o; simp only [boundB, Bool.and_eq_true] at h; exact h.1
      have HXE := hid (HVAL.o hav); have HAV := hid hav; clear hW3 K3 EX EX2 hav; go_wp2_with (at_builtin; rw [HHW3.o]; refine wpList_append_own_at _ rfl (.tmp 48) (.tmp 50) 157 rfl (ga + 3) 337 i0 (.agg #[.int .i64 0, .int .i64 0, .int .i64 0, .int .i64 0, .int .i64 0]) 5 40 Tryz.underlying157 hi hz0 hz1 hz2 rfl (by decide) (.slice pv k cv) k _ rfl HO.o ⟨W2.heap.size + 1, 0, none⟩ 1 1 [.int .i64 a0, .int .i64 a1, .int .i64 a2, .int .i64 a3, .int .i64 a4] rfl rfl HK3.o ?c2 ?c3 ?c4 ?c5 ?_)
      case c2 => intro u hu; simp at hu; rcases hu with rfl | rfl | rfl | rfl | rfl <;> rfl
      case c3 => unfold maxLen; omega
      case c4 => omega
      case c5 => omega
      intro v' w4 hown' hgrow _ _
      obtain ⟨p', c', rfl⟩ : ∃ p' c', v' = .slice p' (k + 1) c' := by
       rcases hown'.2 with ⟨rfl, hn0⟩ | ⟨g, cap, cur, e, _⟩
       ·exact absurd hn0 (by omega)
       ·exact ⟨_, cap, e⟩
      have keep : ∀ (j : Nat) (o : Obj), j < ga + 3 -> W3.heap[j]? = some o -> w4.heap[j]? = some o := fun j o hj h => (hgrow.block j (lt_of_block h) (fun e => by have := (HO.o.lt j e.symm).1; omega)).trans h
      have F1 := hid (keep _ _ (by omega) D1.o); have F2 := hid (keep _ _ (by omega) D2.o); have E4 : Hid (Ext w w4) := hid (EWX.o.grown hgrow (fun j e => by have := (HO.o.lt j e).1; rw [HGA.o]; omega)); have hs4 := hgrow.size; obtain ⟨v0, v1, v2, v3⟩ := blk2 F2.o
      have HOW : Hid (jZe (ga + 3) (w4.setCell ⟨ga + 1 + 1, 1, none⟩ (.slice p' (k + 1) c')) (.slice p' (k + 1) c') (subs.take (k + 1))) := hid (by
       refine jZe.setOld ⟨?_, ?_⟩ (by simp) _
       ·rw [jZ6 HX.o, List.length_append, HTL.o]
        have e : lins (subs.take k ++ [x]) = lins (subs.take k) ++ [.int .i64 a0, .int .i64 a1, .int .i64 a2, .int .i64 a3, .int .i64 a4] := by
         unfold lins; rw [List.flatMap_append]; have h1 := HXE.o.1; have h2 := HXE.o.2; subst h2; simp [lin5, h1]
        rw [e]; exact hown'
       ·intro y hy
        rw [jZ6 HX.o] at hy; rcases List.mem_append.1 hy with h | h
        ·exact HLA.o y h
        ·simp at h; subst h; exact HAV.o)
      clear keep hown' hgrow y0 y1 y2 y3; go_wp2; go_roundw
      case rel => exact ⟨k + 1, by omega, by go_num, jZw HX.o HA2.o HBB.o, ⟨_, jY03 F2.o _, HOW.o⟩, jZb F1.o (by omega) _, by simp; omega, E4.o.setCell (by rw [HGA.o]; simp; omega) _⟩
      case measure => simp [intOf]; omega
    ·obtain rfl : k = n := by omega
     obtain ⟨y0, y1, y2, y3⟩ := blk2 HB2.o; obtain ⟨z0, z1, z2, z3⟩ := blk2 HB1.o; have hal : subs.take k = subs := List.take_of_length_le (by rw [HN.o]; omega); have HAL := hid hal
     have HRT : Hid (accB arr subs dd = true) := hid (by
      have h := HA2.o; rw [HAL.o] at h; simp only [accB, h, HA.o, HN.o, Bool.true_and, decide_eq_true_eq]
      omega)
     have HLF : Hid (jZe ga ((wr.setCell ⟨ga + 1, 0, none⟩ (.string arr)).setCell ⟨ga + 1, 1, none⟩ (.slice pv k cv)) (.slice pv k cv) subs) := hid (by
      have h := HL1.o; have h2 := HLA.o; rw [HAL.o] at h h2; have h3 : jZe (ga + 3) wr (.slice pv k cv) subs := ⟨by rw [HN.o]; exact h, h2⟩
      exact jZe.weak ((h3.setOld (p := ⟨ga + 1, 0, none⟩) (by simp) _).setOld (p := ⟨ga + 1, 1, none⟩) (by simp) _) (by omega))
     have EF : Hid (Ext w ((wr.setCell ⟨ga + 1, 0, none⟩ (.string arr)).setCell ⟨ga + 1, 1, none⟩ (.slice pv k cv))) := hid ((HE.o.setCell (by rw [HGA.o]; simp) _).setCell (by rw [HGA.o]; simp) _); clear hal; go_wp2; obtain ⟨WF, hWF⟩ : ∃ WF, ((wr.setCell ⟨ga + 1, 0, none⟩ (.string arr)).setCell ⟨ga + 1, 1, none⟩ (.slice pv k cv)) = WF := ⟨_, rfl⟩; obtain ⟨f0, f1, -, -⟩ := blk2 (W := WF) (g := ga + 1) (by rw [<- hWF]; exact jZI HB1.o); have HLG := HLF.o; have EG := EF.o; rw [hWF] at HLG EG ⊢; clear hWF; exact bodyPost_ret (v := .tuple #[.agg #[.string arr, .slice pv k cv], .bool true]) (by simp [results, Tryz.results275, go_sem, f0, f1]) rfl ⟨⟨_, _, _, _, by rw [HRT.o], fun _ => ⟨rfl, by rw [HGA.o]; exact HLG⟩⟩, EG⟩
  ·have hnb : (decide ((n : Int) < 1) || decide ((2 : Int) < n)) = true := by simp; omega
   have HR : Hid (accB arr subs dd = false) := hid (jY32 (.inr (.inr (by rw [HN.o]; exact h12)))); by_cases h1 : n < 1
   ·have hb1 : decide ((n : Int) < 1) = true := by simp; omega
    clear h12 hnb
    go_enter Tryz.func275, Tryz.ntmps275
    go_wp2_with (fail); refine (jZW arr _ ha).mono ?_; rw [HA.o]; rintro e w1 ⟨rfl, rfl⟩; go_wp2; exact bodyPost_ret (v := .tuple #[.agg #[.string ⟨#[]⟩, .slice none 0 0], .bool false]) (by simp [results, Tryz.results275, go_sem]) rfl ⟨⟨_, _, _, _, by rw [HR.o], fun h => by rw [HR.o] at h; cases h⟩, ((Ext.refl w).alloc _).alloc _⟩
   ·have hb1 : decide ((n : Int) < 1) = false := by simp; omega
    have hb2 : decide ((2 : Int) < n) = true := by simp; omega
    clear h12 hnb
    go_enter Tryz.func275, Tryz.ntmps275
    go_wp2_with (fail); refine (jZW arr _ ha).mono ?_; rw [HA.o]; rintro e w1 ⟨rfl, rfl⟩; go_wp2; exact bodyPost_ret (v := .tuple #[.agg #[.string ⟨#[]⟩, .slice none 0 0], .bool false]) (by simp [results, Tryz.results275, go_sem]) rfl ⟨⟨_, _, _, _, by rw [HR.o], fun h => by rw [HR.o] at h; cases h⟩, ((Ext.refl w).alloc _).alloc _⟩
end Go.Proofs.YtklehkkclojccaaGreat
