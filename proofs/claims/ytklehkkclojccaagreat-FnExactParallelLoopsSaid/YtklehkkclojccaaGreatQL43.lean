/- The texts G70 G71 G73 G74, joined. No statement is proved here. -/
import Derived.Test.YtklehkkclojccaaGreatQL27
import Derived.Test.YtklehkkclojccaaGreatQL48
import Derived.Test.YtklehkkclojccaaGreatQL41
import Derived.Test.YtklehkkclojccaaGreatQL24
import Derived.Test.YtklehkkclojccaaGreatQL37
import Derived.Test.YtklehkkclojccaaGreatQL49
import Derived.Test.YtklehkkclojccaaGreatQL52
import Derived.Test.YtklehkkclojccaaGreatQL30
set_option maxRecDepth 100000
set_option maxHeartbeats 8000000
set_option linter.unusedVariables false
set_option linter.unusedSimpArgs false
namespace Go.Proofs.YtklehkkclojccaaGreat
open Go.Lib (hid)
section
open Go.RowKit Go.Maps
def carL (xss : List (List Int)) : List Int := (xss.map (carF 0)).filter (fun k => decide (0 <= k))
def carB (ars : List Arr) (ps : List Pt) (z : Int) : List Int := fl 4 (carL (distB ars ps z))
theorem jY1V (l : List (List Int)) (d : List Int) : carL (l ++ [d]) = carL l ++ (if 0 <= carF 0 d then [carF 0 d] else []) := by
 unfold carL
 rw [List.map_append, List.filter_append]
 by_cases h : 0 <= carF 0 d <;> simp [h]
theorem jY52 : ∀ (xs : List Int) (k : Int), carF k xs = -1 \/ (k <= carF k xs /\ carF k xs < k + xs.length)
 | [], k => .inl rfl
 | x :: r, k => by
  simp only [carF, List.length_cons]
  split
  ·rcases jY52 r (k + 1) with h | h
   ·exact .inl h
   ·exact .inr (by omega)
  ·exact .inr (by omega)
theorem jY4J {d : List Int} (h : d.length <= 4) : -1 <= carF 0 d /\ carF 0 d < 4 := by
 rcases jY52 d 0 with e | e <;> omega
theorem carL_bd {xss : List (List Int)} (h : ∀ x ∈ xss, x.length <= 4) : ∀ k ∈ carL xss, 0 <= k /\ k < ((4 : Nat) : Int) := by
 intro k hk
 unfold carL at hk
 rw [List.mem_filter, List.mem_map] at hk
 obtain ⟨⟨d, hd, rfl⟩, h0⟩ := hk
 have := jY4J (h d hd)
 simp only [decide_eq_true_eq] at h0
 omega
theorem jY5W (xss : List (List Int)) : (carL xss).length <= xss.length := by
 unfold carL
 have := List.length_filter_le (fun k => decide (0 <= k)) (xss.map (carF 0))
 rwa [List.length_map] at this
theorem jY3M {ars : List Arr} {ps : List Pt} (z : Int) : (distB ars ps z).length <= 14400 := by
 unfold distB
 split
 ·have h1 := jY3A (dsM ps z (depsB ars ps))
  have h2 := jY5v ps z (depsB ars ps); have h3 := jY1w ars ps; omega
 ·simp
theorem dist_4 {ars : List Arr} {ps : List Pt} (z : Int) : ∀ x ∈ distB ars ps z, x.length <= 4 := by
 intro x hx
 unfold distB at hx
 split at hx
 ·rename_i hb
  rw [(jY54 _).2] at hx; unfold dsM at hx; obtain ⟨d, -, hd⟩ := List.mem_filterMap.1 hx; unfold dAt at hd
  split at hd
  ·rename_i a b ha hbb
   split at hd
   ·cases hd
    obtain ⟨h4, -, -, -⟩ := jY2M hb (List.mem_of_getElem? ha) (List.mem_of_getElem? hbb); unfold subL; rw [List.length_zipWith]; omega
   ·cases hd
  ·cases hd
 ·simp at hx
theorem jXY (v : Value) (ars : List Arr) (ps : List Pt) (z : Int) (w : World) (hp : PrR w v ars ps) :
  Calls Tryz.prog 34 #[v, .int .i64 z] w fun e w' => (∃ v', e = .returned v' /\ jZ1 w.heap.size w' v' (carB ars ps z)) /\ Ext w w' := by
 obtain ⟨qa, ca, qp, cp, rfl, hla, hlp, ha, hps⟩ := hp.parts
 obtain ⟨na, hna⟩ : ∃ n, ars.length = n := ⟨_, rfl⟩
 obtain ⟨np, hnp⟩ : ∃ n, ps.length = n := ⟨_, rfl⟩
 rw [hna, hnp] at hp ⊢
 have HP := hid hp
 have hmk : ∀ w : World, (Instr.makeSlice 98 (.int .i64 4) (.int .i64 4)).run Tryz.prog w = .ok (.slice (some ⟨w.heap.size, 0, none⟩) 4 4) (w.alloc (.cells ((flg 4 []).map Value.bool).toArray 4)) := fun w => jY4e 4 (by omega) w
 clear hp ha hps hna hnp
 go_enter Tryz.func34, Tryz.ntmps34
 go_wp2_with (fail)
 obtain ⟨W1, hW1⟩ : ∃ W1, w.alloc (.cells #[.slice qa na ca, .slice qp np cp] 32) = W1 := ⟨_, rfl⟩
 have E1 : Hid (Ext w W1) := hid (by rw [<- hW1]; exact (Ext.refl w).alloc _)
 have HZ1 : Hid (W1.heap.size = w.heap.size + 1) := hid (by rw [<- hW1]; simp)
 obtain ⟨W2, hW2⟩ : ∃ W2, W1.alloc (.cells ((flg 4 []).map Value.bool).toArray 4) = W2 := ⟨_, rfl⟩
 have E2 : Hid (Ext W1 W2) := hid (by rw [<- hW2]; exact (Ext.refl W1).alloc _)
 have F2 : Hid (FlgAt W2 (w.heap.size + 1) (flg 4 [])) := hid (by rw [<- hW2]; exact blk_at HZ1.o.symm)
 have HZ2 : Hid (W2.heap.size = w.heap.size + 2) := hid (by rw [<- hW2]; simp [HZ1.o])
 try rw [hW1]
 try rw [hW2]
 clear hW1 hW2 hmk
 refine (jV2 _ ars ps z _ (HP.o.ext (E1.o.trans E2.o))).mono ?_
 rintro e w3 ⟨⟨v3, rfl, hd⟩, hE3⟩
 obtain ⟨q, c, rfl⟩ := hd.slice
 have hlen := jY3M (ars := ars) (ps := ps) z
 have h4 := dist_4 (ars := ars) (ps := ps) z
 have HCB : Hid (carB ars ps z = fl 4 (carL (distB ars ps z))) := hid rfl
 obtain ⟨xss, hxs⟩ : ∃ x, distB ars ps z = x := ⟨_, rfl⟩
 rw [hxs] at hd hlen h4 HCB ⊢
 obtain ⟨n, hn⟩ : ∃ n, xss.length = n := ⟨_, rfl⟩
 rw [hn] at hd hlen ⊢
 have HN := hid hn; have H4 := hid h4; have HD := hid hd; have E3 := hid (E2.o.trans hE3); have F3 : Hid (FlgAt w3 (w.heap.size + 1) (flg 4 [])) := hid (hE3.blk F2.o)
 clear hn h4 hd hE3 hxs
 obtain ⟨L, hL⟩ : ∃ L, w.heap.size + 1 = L := ⟨_, rfl⟩
 have HL := hid hL
 rw [hL] at F3 ⊢
 clear hL F2
 go_wp2
 go_loopw [7] (fun iv wr => ∃ k : Nat, k <= n /\ iv = .int .i64 k /\ FlgAt wr L (flg 4 (carL (xss.take k))) /\ PtsOwn W2.heap.size wr (.slice q n c) xss /\ Ext W1 wr) (fun iv _ => n - (intOf iv).toNat)
 case atStart => exact ⟨0, by omega, rfl, by simpa [carL] using F3.o, HD.o, E3.o⟩
 case round =>
  obtain ⟨k, hk, rfl, hf, hd, hE⟩ := hrel; clear F3 HD; have HF := hid hf; have HD := hid hd; have HE := hid hE; clear hf hd hE; by_cases hlt : k < n
  ·obtain ⟨x, hx⟩ := jZ0 (xs := xss) (k := k) (by rw [HN.o]; exact hlt)
   obtain ⟨g, u, rfl, cu, hu⟩ := HD.o.at2 hx; obtain ⟨pu, cu', rfl⟩ := jWN hu; obtain ⟨lx, hlx⟩ : ∃ n, x.length = n := ⟨_, rfl⟩; rw [hlx] at hu cu; have hcb := jY4J (H4.o x (List.mem_of_getElem? hx)); have HNX : Hid (carL (xss.take (k + 1)) = carL (xss.take k) ++ (if 0 <= carF 0 x then [carF 0 x] else [])) := hid (by rw [jZ6 hx, jY1V]); obtain ⟨lv, hlv⟩ : ∃ lv, carF 0 x = lv := ⟨_, rfl⟩; rw [hlv] at hcb HNX; have HU := hid hu; have HLX := hid hlx; have HLV := hid hlv; have hkI : (k : Int) < (n : Int) := by omega
   clear hx hu hlx hlv; go_wp2_with (fail); refine (jWx pu lx cu' x _ HLX.o HU.o.at).mono ?_; rw [HLV.o]; rintro e w5 ⟨rfl, hE5⟩; have HF5 : Hid (FlgAt w5 L (flg 4 (carL (xss.take k)))) := hid (hE5.blk HF.o); have HD5 := hid (HD.o.ext hE5); have E5 := hid (HE.o.trans hE5); clear hE5 cu; by_cases h0 : 0 <= lv
   ·obtain ⟨m, rfl⟩ : ∃ m : Nat, lv = m := ⟨lv.toNat, by omega⟩
    have hm4 : m < 4 := by omega
    have hb : decide ((0 : Int) <= (m : Int)) = true := by simp
    have hm4I : (m : Int) < 4 := by omega
    have hfz : w5.frozen? ⟨L, m, none⟩ = false := HF5.o.frozen; have hcl := HF5.o.cell (jY1o (carL (xss.take k)) hm4); have HF6 : Hid (FlgAt (w5.setCell ⟨L, m, none⟩ (.bool true)) L (flg 4 (carL (xss.take (k + 1))))) := hid (by rw [HNX.o, if_pos h0, <- flg_set]; exact HF5.o.set true); have hlvs := lv_set w5 L m (.bool true); have HD6 := hid (PtsOwn.lvB HD5.o hlvs (fun b hb hbl e => by have := HZ2.o; have := HL.o; omega)); have E6 := hid (E5.o.setCell (p := ⟨L, m, none⟩) (by show W1.heap.size <= L; have := HZ1.o; have := HL.o; omega) (.bool true)); clear h0 hlvs; go_wp2; go_roundw
    case rel => exact ⟨k + 1, by omega, by go_num, HF6.o, HD6.o, E6.o⟩
    case measure => simp [intOf]; omega
   ·have hb : decide ((0 : Int) <= lv) = false := by simpa using h0
    have HF6 : Hid (FlgAt w5 L (flg 4 (carL (xss.take (k + 1))))) := hid (by rw [HNX.o, if_neg h0, List.append_nil]; exact HF5.o); go_wp2; go_roundw
    case rel => exact ⟨k + 1, by omega, by go_num, HF6.o, HD5.o, E5.o⟩
    case measure => simp [intOf]; omega
  ·obtain rfl : k = n := by omega
   have HF2 : Hid (FlgAt wr L (flg 4 (carL xss))) := hid (by
    have h := HF.o
    rwa [List.take_of_length_le (by rw [HN.o]; omega)] at h)
   go_wp2_with (fail); refine (jY0Z L 4 (carL xss) _ HF2.o (by omega)).mono ?_; rintro e w7 ⟨⟨v7, rfl, hv7⟩, hE7⟩; have hsz : w.heap.size <= wr.heap.size := (E1.o.trans HE.o).size_le; have HV7 : Hid (jZ1 w.heap.size w7 v7 (carB ars ps z)) := hid (by rw [HCB.o]; exact hv7.weak hsz); have E7 := hid ((E1.o.trans HE.o).trans hE7); clear hE7 hv7; go_wp2; go_ret; exact ⟨⟨_, rfl, HV7.o⟩, E7.o⟩
theorem jWT (B : Nat) (es : List Ev) (mo : Option Nat) (T : Int) (q1 q2 : Option Addr) (n1 c1 M c2 : Nat) (z : Int) (w : World) (hM : es.length = M) (hM120 : M <= 120) (hev : EvsOwn B w (.slice q2 M c2) es)
  (hes : ∀ a ∈ es, ∀ b ∈ es, a.1.2.2.length <= 4 /\ (∀ x ∈ a.1.2.2, -1000000 <= x /\ x <= 1000000) /\ (∀ x ∈ b.1.2.2, -1000000 <= x /\ x <= 1000000) /\ (a.1.1 = b.1.1 -> b.1.2.2.length = a.1.2.2.length)) (xss : List (List Int)) (hxs : dstF (dsE es z (dpOf (kEv es) (prTo M M))) = xss) (hlen : xss.length <= 20000) :
  Calls Tryz.prog 73 #[.agg #[.map mo, .int .i64 T, .slice q1 n1 c1, .slice q2 M c2], .int .i64 z] w fun e w' => (∃ v', e = .returned v' /\ jZ1 w.heap.size w' v' (ascL (carL xss))) /\ Ext w w' := by
 obtain ⟨i0, hi, hz0, hz1, hz2⟩ := info_parts jZK
 have HM := hid hM; have HEV := hid hev; have HES := hid hes; have HXS := hid hxs
 clear hM hev hes hxs
 go_enter Tryz.func73, Tryz.ntmps73
 go_wp2_with (fail)
 obtain ⟨W1, hW1⟩ : ∃ W1, w.alloc (.cells #[.map mo, .int .i64 T, .slice q1 n1 c1, .slice q2 M c2] 70) = W1 := ⟨_, rfl⟩
 have E1 : Hid (Ext w W1) := hid (by rw [<- hW1]; exact (Ext.refl w).alloc _)
 try rw [hW1]
 clear hW1
 refine (jY1e B es mo T q1 q2 n1 c1 M c2 z W1 HM.o hM120 (HEV.o.ext E1.o) HES.o).mono ?_
 rw [HXS.o]
 rintro e w2 ⟨⟨v2, own, rfl, hd, hob⟩, hE2⟩
 obtain ⟨q, c, rfl⟩ := hd.form
 obtain ⟨n, hn⟩ : ∃ n, xss.length = n := ⟨_, rfl⟩
 rw [hn] at hd hlen ⊢
 have HN := hid hn; have HD := hid hd; have E2 := hid (E1.o.trans hE2)
 clear hn hd hob hE2
 go_wp2
 go_loopw [5, 13] (fun ov iv wr => ∃ (k m : Nat) (po : Option Addr) (co : Nat), k <= n /\ iv = .int .i64 k /\ ov = .slice po m co /\ (carL (xss.take k)).length = m /\ wr.ownsRow w2.heap.size 3 1 (.slice po m co) m ((carL (xss.take k)).map (Value.int .i64)) /\ Ext w2 wr) (fun _ iv _ => n - (intOf iv).toNat)
 case atStart => exact ⟨0, 0, _, _, by omega, rfl, rfl, by simp [carL], by simpa [carL] using World.ownsRow_nil w2 w2.heap.size 3 1, Ext.refl w2⟩
 case round =>
  obtain ⟨k, m, po, co, hk, rfl, rfl, hm, ho, hE⟩ := hrel
  have hmk : m <= k := by
   have h1 := jY5W (xss.take k); rw [List.length_take] at h1; omega
  have HML := hid hm; have HO := hid ho; have HE := hid hE; clear hm ho hE; by_cases hlt : k < n
  ·obtain ⟨x, hx⟩ := jZ0 (xs := xss) (k := k) (by rw [HN.o]; exact hlt)
   obtain ⟨o, g, cg, rfl, cx, hix, -⟩ := (HD.o.lv HE.o.lv).get hx; obtain ⟨lx, hlx⟩ : ∃ n, x.length = n := ⟨_, rfl⟩; rw [hlx] at cx hix; have HNX : Hid (carL (xss.take (k + 1)) = carL (xss.take k) ++ (if 0 <= carF 0 x then [carF 0 x] else [])) := hid (by rw [jZ6 hx, jY1V]); obtain ⟨lv, hlv⟩ : ∃ lv, carF 0 x = lv := ⟨_, rfl⟩; rw [hlv] at HNX; have HIX := hid hix; have HLX := hid hlx; have HLV := hid hlv; have hkI : (k : Int) < (n : Int) := by omega
   clear hx hix hlx hlv; go_wp2_with (fail); refine (jY0w _ lx cg x _ HLX.o HIX.o).mono ?_; rw [HLV.o]; rintro e w5 ⟨rfl, hE5⟩; have E5 := hid (HE.o.trans hE5); have HO5 := hid (jZ3 HO.o hE5); clear hE5 cx; by_cases h0 : 0 <= lv
   ·have hb : decide ((0 : Int) <= lv) = true := by simpa using h0
    have HNX2 : Hid (carL (xss.take (k + 1)) = carL (xss.take k) ++ [lv]) := hid (by rw [HNX.o, if_pos h0]); have HOX := hid (jZ3 HO5.o ((Ext.refl w5).alloc (.cells #[.int .i64 lv] 3))); have hsz : w2.heap.size <= w5.heap.size := E5.o.size_le; clear h0; go_wp2_with (at_builtin; refine wpList_append_own_at _ rfl (.tmp 21) (.tmp 23) 39 rfl w2.heap.size 3 i0 (.int .i64 0) 1 8 jZG hi hz0 hz1 hz2 rfl (by decide) (.slice po m co) m _ rfl HOX.o ⟨w5.heap.size, 0, none⟩ 1 1 [.int .i64 lv] rfl rfl ?c1 ?c2 ?c3 ?c4 ?c5 ?_)
    case c1 => exact jZz rfl
    case c2 => intro u hu; simp at hu; subst hu; rfl
    case c3 => unfold maxLen; omega
    case c4 => omega
    case c5 => simp; omega
    intro v' w6 hown' hgrow _ hat
    obtain ⟨po', co', rfl⟩ : ∃ po' co', v' = .slice po' (m + 1) co' := by
     rcases hown'.2 with ⟨rfl, hn0⟩ | ⟨g, cap, cur, e, _⟩
     ·exact absurd hn0 (by omega)
     ·exact ⟨_, cap, e⟩
    have HO6 : Hid (w6.ownsRow w2.heap.size 3 1 (.slice po' (m + 1) co') (m + 1) ((carL (xss.take (k + 1))).map (Value.int .i64))) := hid (by rw [HNX2.o, List.map_append]; simpa using hown'); have HL6 : Hid ((carL (xss.take (k + 1))).length = m + 1) := hid (by rw [HNX2.o, List.length_append, HML.o]; rfl); have E6 := hid ((E5.o.alloc (.cells #[.int .i64 lv] 3)).grown hgrow (fun b hb => (HOX.o.lt b hb).1)); clear hown' hgrow hat
    go_wp2; go_roundw
    case rel => exact ⟨k + 1, m + 1, _, _, by omega, by go_num, rfl, HL6.o, HO6.o, E6.o⟩
    case measure => simp [intOf]; omega
   ·have hb : decide ((0 : Int) <= lv) = false := by simpa using h0
    have HNX2 : Hid (carL (xss.take (k + 1)) = carL (xss.take k)) := hid (by rw [HNX.o, if_neg h0, List.append_nil]); have HO6 : Hid (w5.ownsRow w2.heap.size 3 1 (.slice po m co) m ((carL (xss.take (k + 1))).map (Value.int .i64))) := hid (by rw [HNX2.o]; exact HO5.o); have HL6 : Hid ((carL (xss.take (k + 1))).length = m) := hid (by rw [HNX2.o]; exact HML.o); go_wp2; go_roundw
    case rel => exact ⟨k + 1, m, _, _, by omega, by go_num, rfl, HL6.o, HO6.o, E5.o⟩
    case measure => simp [intOf]; omega
  ·obtain rfl : k = n := by omega
   have hall : xss.take k = xss := List.take_of_length_le (by rw [HN.o]; omega); have HL6 : Hid ((carL xss).length = m) := hid (by rw [<- hall]; exact HML.o); have HI6 : Hid (jZ1 w2.heap.size wr (.slice po m co) (carL xss)) := hid (jZ1.mk (by rw [<- hall]; exact HO.o) HL6.o); have EW := hid (E2.o.trans HE.o); have HS2 := hid E2.o.size_le; clear hall; go_wp2_with (fail); refine (jY16 w2.heap.size po m co (carL xss) wr HL6.o HI6.o (by omega)).mono ?_; rintro e w7 ⟨⟨v7, rfl, hv7⟩, hlv⟩; have HV7 := hid (hv7.weak HS2.o); have E7 := hid (hlv.ext0 EW.o (fun b hb h => by have := HS2.o; omega)); clear hv7 hlv; go_wp2; go_ret; exact ⟨⟨_, rfl, HV7.o⟩, E7.o⟩
theorem jY4r (v : Value) (ars : List Arr) (ps : List Pt) (z : Int) (B0 : Nat) (W1 w2 : World) (h0 : progB ars ps = false -> v = .agg #[.map none, .int .i64 0, .slice none 0 0, .slice none 0 0]) (h1 : progB ars ps = true -> PgR B0 W1 w2 v ars ps) :
  ∃ mo T q1 n1 c1 q2 M c2, ∃ es : List Ev, v = .agg #[.map mo, .int .i64 T, .slice q1 n1 c1, .slice q2 M c2] /\ es.length = M /\ M <= 120 /\ EvsOwn B0 w2 (.slice q2 M c2) es /\ dstF (dsE es z (dpOf (kEv es) (prTo M M))) = distB ars ps z /\
   (∀ a ∈ es, ∀ b ∈ es, a.1.2.2.length <= 4 /\ (∀ x ∈ a.1.2.2, -1000000 <= x /\ x <= 1000000) /\ (∀ x ∈ b.1.2.2, -1000000 <= x /\ x <= 1000000) /\ (a.1.1 = b.1.1 -> b.1.2.2.length = a.1.2.2.length)) := by
 cases hb : progB ars ps with
 | false => exact ⟨_, _, _, _, _, _, _, _, [], h0 hb, rfl, by omega, ⟨[], World.ownsRow_nil _ _ _ _, fun i x h => by simp at h⟩, by unfold distB; rw [hb]; rfl, by simp⟩
 | true =>
  obtain ⟨Bm, D, q1, c1, q2, c2, rfl, -, -, -, -, he⟩ := h1 hb; refine ⟨_, _, _, _, _, _, _, _, evsOf ars ps, rfl, rfl, by have := jWE hb; simpa [evsOf] using this, he, ?_, fun a ha b hbm => ?_⟩
  ·have h2 : dpOf (kEv (evsOf ars ps)) (prTo (evsOf ars ps).length (evsOf ars ps).length) = depsB ars ps := by rw [evs_cnt hb]; exact dl_deps hb
   have h3 : dsE (evsOf ars ps) z (depsB ars ps) = dsM ps z (depsB ars ps) := by
    unfold dsE dsM; exact congrArg (fun f => (depsB ars ps).filterMap f) (funext (fun d => dEv_ins ars ps z d))
   rw [h2, h3]; unfold distB; rw [if_pos hb]
  ·unfold evsOf at ha hbm
   obtain ⟨y1, hy1, rfl⟩ := List.mem_map.1 ha; obtain ⟨y2, hy2, rfl⟩ := List.mem_map.1 hbm; exact jY2M hb hy1 hy2
end
section
open Go.RowKit Go.Maps
def loopsAt (ps : List Pt) (z : Int) : Nat := match ps[z.toNat]? with | some p => p.1.length | none => 0
def siteB (ars : List Arr) (ps : List Pt) (z : Int) : Bool := progB ars ps && (decide (0 <= z) && decide (z < (ps.length : Int)))
def hasB (ars : List Arr) (ps : List Pt) (z x : Int) : Bool := siteB ars ps z && (decide (0 <= x) && decide (x < (loopsAt ps z : Int)))
def lpB (ars : List Arr) (ps : List Pt) (z x : Int) : Bool := hasB ars ps z x && !decide (x ∈ carB ars ps z)
def ploTo (ars : List Arr) (ps : List Pt) (z : Int) (n : Nat) : List Int := ((List.range n).filter (fun (j : Nat) => lpB ars ps z (j : Int))).map (fun (j : Nat) => (j : Int))
def plL (ars : List Arr) (ps : List Pt) (z : Int) : List Int := ploTo ars ps z 4
theorem jY0B (ars : List Arr) (ps : List Pt) (z : Int) (k : Nat) : ploTo ars ps z (k + 1) = ploTo ars ps z k ++ (if lpB ars ps z (k : Int) = true then [(k : Int)] else []) := by
 unfold ploTo
 rw [List.range_succ, List.filter_append, List.map_append]
 cases h : lpB ars ps z (k : Int) <;> simp [h]
theorem jY25 (ars : List Arr) (ps : List Pt) (z : Int) (k : Nat) : (ploTo ars ps z k).length <= k := by
 unfold ploTo
 rw [List.length_map]
 exact Nat.le_trans (List.length_filter_le _ _) (by simp)
theorem jY3K {ars : List Arr} {ps : List Pt} {z : Int} (h : siteB ars ps z = true) : progB ars ps = true /\ ∃ (k : Nat) (p : Pt), z = k /\ ps[k]? = some p /\ loopsAt ps z = p.1.length /\ nestB p.1 = true := by
 unfold siteB at h
 simp only [Bool.and_eq_true, decide_eq_true_eq] at h
 obtain ⟨h1, h2, h3⟩ := h
 obtain ⟨k, rfl⟩ : ∃ k : Nat, z = k := ⟨z.toNat, by omega⟩
 obtain ⟨p, hp⟩ := jZ0 (xs := ps) (k := k) (by omega)
 refine ⟨h1, k, p, rfl, hp, by unfold loopsAt; rw [Int.toNat_natCast, hp], ?_⟩
 have h4 := h1
 unfold progB at h4
 simp only [Bool.and_eq_true, List.all_eq_true] at h4
 have h5 := h4.2.2.1 p (List.mem_of_getElem? hp)
 unfold partB at h5
 simp only [Bool.and_eq_true] at h5
 exact jWa h5.1
theorem loops4 {ars : List Arr} {ps : List Pt} {z : Int} (h : siteB ars ps z = true) : loopsAt ps z <= 4 := by
 obtain ⟨-, k, p, -, -, e, hn⟩ := jY3K h
 rw [e]
 exact (jZy.1 hn).1
theorem jY6b {ars : List Arr} {ps : List Pt} {z : Int} (h : siteB ars ps z = true) : plL ars ps z = (((List.range (loopsAt ps z)).map (fun (j : Nat) => (j : Int))).filter (fun x => !decide (x ∈ carB ars ps z))) := by
 have h4 := loops4 h
 unfold plL
 obtain ⟨n, hn⟩ : ∃ n, loopsAt ps z = n := ⟨_, rfl⟩
 rw [hn] at h4 ⊢
 have key : ∀ m : Nat, n <= m -> ploTo ars ps z m = (((List.range n).map (fun (j : Nat) => (j : Int))).filter (fun x => !decide (x ∈ carB ars ps z))) := by
  have lp : ∀ j : Nat, lpB ars ps z (j : Int) = (decide (j < n) && !decide ((j : Int) ∈ carB ars ps z)) := fun j => by
   unfold lpB hasB; rw [h, hn]; simp
  intro m hm
  induction m with
  | zero =>
   obtain rfl : n = 0 := by omega
   simp [ploTo]
  | succ m ih =>
   by_cases hle : n <= m
   ·rw [jY0B, ih hle, lp, decide_eq_false (show ¬ m < n by omega)]
    simp
   ·obtain rfl : n = m + 1 := by omega
    unfold ploTo; rw [List.filter_map]; congr 1; apply List.filter_congr; intro j hj; rw [lp, decide_eq_true (List.mem_range.1 hj)]; rfl
 exact key 4 h4
theorem plL_no {ars : List Arr} {ps : List Pt} {z : Int} (h : siteB ars ps z = false) : plL ars ps z = [] := by
 unfold plL ploTo
 rw [show (List.range 4).filter (fun (j : Nat) => lpB ars ps z (j : Int)) = [] from List.filter_eq_nil_iff.2 (fun j _ => by unfold lpB hasB; rw [h]; simp)]
 rfl
theorem jY5B (v : Value) (ars : List Arr) (ps : List Pt) (z x : Int) (w : World) (hp : PrR w v ars ps) :
  Calls Tryz.prog 74 #[v, .int .i64 z, .int .i64 x] w fun e w' => e = .returned (.bool (hasB ars ps z x)) /\ Ext w w' := by
 have HP := hid hp
 obtain ⟨qa, ca, qp, cp, rfl, hla, hlp, ha, hps⟩ := hp.parts
 obtain ⟨na, hna⟩ : ∃ n, ars.length = n := ⟨_, rfl⟩
 obtain ⟨np, hnp⟩ : ∃ n, ps.length = n := ⟨_, rfl⟩
 rw [hna, hnp] at HP ⊢
 rw [hnp] at hlp hps
 have HNP := hid hnp; have HPS := hid hps
 obtain ⟨pb, hpb⟩ : ∃ b, progB ars ps = b := ⟨_, rfl⟩
 obtain ⟨ans, hans⟩ : ∃ a, hasB ars ps z x = a := ⟨_, rfl⟩
 have HA : Hid (ans = ((pb && (decide (0 <= z) && decide (z < (np : Int)))) && (decide (0 <= x) && decide (x < (loopsAt ps z : Int))))) := hid (by rw [<- hans, <- hpb, <- hnp]; rfl)
 rw [hans]
 have HPB := hid hpb
 clear hp ha hps hna hnp hpb hans hla
 go_enter Tryz.func74, Tryz.ntmps74
 go_wp2_with (fail)
 refine (jXb _ ars ps _ (HP.o.ext ((Ext.refl w).alloc _))).mono ?_
 rw [HPB.o]
 rintro e w1 ⟨rfl, hE⟩
 have E1 := hid (((Ext.refl w).alloc _).trans hE)
 have B1 := hid (hE.blk (g := w.heap.size) (blk_at rfl))
 clear hE
 obtain ⟨y0, y1, -, -⟩ := blk2 B1.o
 cases pb with
 | false =>
  obtain rfl : ans = false := by rw [HA.o]; rfl
  go_wp2; go_ret; exact ⟨rfl, E1.o⟩
 | true =>
  by_cases h0 : 0 <= z
  ·have hd0 : decide (0 <= z) = true := by simpa using h0
   obtain ⟨k, rfl⟩ : ∃ k : Nat, z = k := ⟨z.toNat, by omega⟩; by_cases h1 : k < np
   ·have hd1 : decide ((k : Int) < (np : Int)) = true := by simp; omega
    have hkI : (k : Int) < (np : Int) := by omega
    obtain ⟨p, hx⟩ := jZ0 (xs := ps) (k := k) (by rw [HNP.o]; omega); obtain ⟨b, off, p1, m1, p2, m2, rfl, d0, d1, hbb, hls, hss⟩ := (HPS.o.ext E1.o).elem hx; obtain ⟨nl, hnl⟩ : ∃ m, p.1.length = m := ⟨_, rfl⟩; rw [hnl] at d0; have HX : Hid (ans = (decide (0 <= x) && decide (x < (nl : Int)))) := hid (by rw [HA.o, hd0, hd1, <- hnl]; unfold loopsAt; rw [Int.toNat_natCast, hx]; rfl); clear hx hls hss hnl HA; by_cases h2 : 0 <= x
    ·have hd2 : decide (0 <= x) = true := by simpa using h2
     obtain ⟨xb, hxb⟩ : ∃ xb, decide (x < (nl : Int)) = xb := ⟨_, rfl⟩; have HX2 : Hid (ans = xb) := hid (by rw [HX.o, hd2, hxb]; rfl); clear HX; go_wp2; go_ret; exact ⟨jZ2 HX2.o.symm, E1.o⟩
    ·have hd2 : decide (0 <= x) = false := by simpa using h2
     obtain rfl : ans = false := by rw [HX.o, hd2]; rfl
     go_wp2; go_ret; exact ⟨rfl, E1.o⟩
   ·have hd1 : decide ((k : Int) < (np : Int)) = false := by simp; omega
    obtain rfl : ans = false := by rw [HA.o, hd0, hd1]; rfl
    go_wp2; go_ret; exact ⟨rfl, E1.o⟩
  ·have hd0 : decide (0 <= z) = false := by simpa using h0
   obtain rfl : ans = false := by rw [HA.o, hd0]; rfl
   go_wp2; go_ret; exact ⟨rfl, E1.o⟩
theorem jWg (v : Value) (ars : List Arr) (ps : List Pt) (z x : Int) (w : World) (hp : PrR w v ars ps) :
  Calls Tryz.prog 36 #[v, .int .i64 z, .int .i64 x] w fun e w' => e = .returned (.bool (lpB ars ps z x)) /\ Ext w w' := by
 have HP := hid hp
 obtain ⟨qa, ca, qp, cp, rfl, hla, hlp, ha, hps⟩ := hp.parts
 obtain ⟨na, hna⟩ : ∃ n, ars.length = n := ⟨_, rfl⟩
 obtain ⟨np, hnp⟩ : ∃ n, ps.length = n := ⟨_, rfl⟩
 rw [hna, hnp] at HP ⊢
 obtain ⟨hb, hhb⟩ : ∃ b, hasB ars ps z x = b := ⟨_, rfl⟩
 obtain ⟨mb, hmb⟩ : ∃ b, decide (x ∈ carB ars ps z) = b := ⟨_, rfl⟩
 obtain ⟨ans, hans⟩ : ∃ a, lpB ars ps z x = a := ⟨_, rfl⟩
 have HA : Hid (ans = (hb && !mb)) := hid (by rw [<- hans, <- hhb, <- hmb]; rfl)
 rw [hans]
 have HHB := hid hhb; have HMB := hid hmb
 clear hp ha hps hna hnp hhb hmb hans hla hlp
 go_enter Tryz.func36, Tryz.ntmps36
 go_wp2_with (fail)
 refine (jY5B _ ars ps z x _ (HP.o.ext ((Ext.refl w).alloc _))).mono ?_
 rw [HHB.o]
 rintro e w1 ⟨rfl, hE⟩
 have E1 := hid (((Ext.refl w).alloc _).trans hE)
 have B1 := hid (hE.blk (g := w.heap.size) (blk_at rfl))
 clear hE
 obtain ⟨y0, y1, -, -⟩ := blk2 B1.o
 cases hb with
 | false =>
  obtain rfl : ans = false := by rw [HA.o]; rfl
  go_wp2; go_ret; exact ⟨rfl, E1.o⟩
 | true =>
  go_wp2_with (fail); refine (jXY _ ars ps z _ (HP.o.ext E1.o)).mono ?_; rintro e w2 ⟨⟨v2, rfl, hv2⟩, hE⟩; obtain ⟨q, c, rfl⟩ := jZt hv2; obtain ⟨n, hn⟩ : ∃ n, (carB ars ps z).length = n := ⟨_, rfl⟩; rw [hn] at hv2 ⊢; have HN := hid hn; have HV := hid hv2; have E2 := hid (E1.o.trans hE); clear hn hv2 hE; go_wp2_with (fail); refine (jY0k q n c _ x _ HN.o HV.o.at).mono ?_; rw [HMB.o]; rintro e w3 ⟨rfl, hE⟩; have E3 := hid (E2.o.trans hE); have HR : Hid (ans = !mb) := hid (by rw [HA.o]; rfl); clear hE; go_wp2; go_ret; exact ⟨jZ2 HR.o.symm, E3.o⟩
theorem jW4 (v : Value) (ars : List Arr) (ps : List Pt) (z : Int) (w : World) (hp : PrR w v ars ps) :
  Calls Tryz.prog 38 #[v, .int .i64 z] w fun e w' => (∃ v', e = .returned v' /\ jZ1 w.heap.size w' v' (plL ars ps z)) /\ Ext w w' := by
 obtain ⟨i0, hi, hz0, hz1, hz2⟩ := info_parts jZK
 have HP := hid hp
 obtain ⟨qa, ca, qp, cp, rfl, hla, hlp, ha, hps⟩ := hp.parts
 obtain ⟨na, hna⟩ : ∃ n, ars.length = n := ⟨_, rfl⟩
 obtain ⟨np, hnp⟩ : ∃ n, ps.length = n := ⟨_, rfl⟩
 rw [hna, hnp] at HP ⊢
 clear hp ha hps hna hnp hla hlp
 go_enter Tryz.func38, Tryz.ntmps38
 go_wp2
 obtain ⟨W1, hW1⟩ : ∃ W1, w.alloc (.cells #[.slice qa na ca, .slice qp np cp] 32) = W1 := ⟨_, rfl⟩
 have E1 : Hid (Ext w W1) := hid (by rw [<- hW1]; exact (Ext.refl w).alloc _)
 have HZ1 : Hid (W1.heap.size = w.heap.size + 1) := hid (by rw [<- hW1]; simp)
 have B1 : Hid (W1.heap[w.heap.size]? = some (.cells #[.slice qa na ca, .slice qp np cp] 32 (0, 0))) := hid (by rw [<- hW1]; exact blk_at rfl)
 try rw [hW1]
 clear hW1
 obtain ⟨W0, hW0⟩ : ∃ W0, W1.alloc (.cells #[] 3) = W0 := ⟨_, rfl⟩
 have E0 : Hid (Ext W1 W0) := hid (by rw [<- hW0]; exact (Ext.refl W1).alloc _)
 have O0 : Hid (W0.ownsRow W1.heap.size 3 1 (.slice (some ⟨w.heap.size + 1, 0, none⟩) 0 0) 0 []) := hid (by rw [<- hW0, <- HZ1.o]; exact World.ownsRow_made W1 #[] 0 (Nat.le_refl _) (Nat.zero_le _) rfl)
 try rw [hW0]
 clear hW0
 go_loopw [5, 6] (fun ov iv wr => ∃ (k m : Nat) (po : Option Addr) (co : Nat), k <= 4 /\ iv = .int .i64 k /\ ov = .slice po m co /\ (ploTo ars ps z k).length = m /\ wr.ownsRow W1.heap.size 3 1 (.slice po m co) m ((ploTo ars ps z k).map (Value.int .i64)) /\ Ext W1 wr) (fun _ iv _ => 4 - (intOf iv).toNat)
 case atStart => exact ⟨0, 0, _, _, by omega, rfl, rfl, rfl, O0.o, E0.o⟩
 case round =>
  obtain ⟨k, m, po, co, hk, rfl, rfl, hm, ho, hE⟩ := hrel; clear O0 E0; have HM := hid hm; have HO := hid ho; have HE := hid hE; have hmk : m <= k := by rw [<- hm]; exact jY25 ars ps z k
  obtain ⟨y0, y1, -, -⟩ := blk2 (hE.blk B1.o); clear hm ho hE; by_cases hlt : k < 4
  ·have hkd : decide ((k : Int) < 4) = true := by simp; omega
   have hkI : (k : Int) < 4 := by omega
   obtain ⟨pb, hpb⟩ : ∃ b, lpB ars ps z (k : Int) = b := ⟨_, rfl⟩; have HN1 : Hid (ploTo ars ps z (k + 1) = ploTo ars ps z k ++ (if pb = true then [(k : Int)] else [])) := hid (by rw [jY0B, hpb]); have HPB := hid hpb; clear hpb; go_wp2_with (fail); refine (jWg _ ars ps z (k : Int) _ (HP.o.ext (E1.o.trans HE.o))).mono ?_; rw [HPB.o]; rintro e w1 ⟨rfl, hE1⟩; have EE1 := hid (HE.o.trans hE1); have O1 := hid (jZ3 HO.o hE1); clear hE1 y0 y1; cases pb with
   | false =>
    have HN2 : Hid (ploTo ars ps z (k + 1) = ploTo ars ps z k) := hid (by rw [HN1.o]; simp); go_wp2; go_roundw
    case rel => exact ⟨k + 1, m, po, co, by omega, by go_num, rfl, by rw [HN2.o]; exact HM.o, by rw [HN2.o]; exact O1.o, EE1.o⟩
    case measure => simp [intOf]; omega
   | true =>
    have HN2 : Hid (ploTo ars ps z (k + 1) = ploTo ars ps z k ++ [(k : Int)]) := hid (by rw [HN1.o]; simp); have HOX := hid (jZ3 O1.o ((Ext.refl w1).alloc (.cells #[.int .i64 (k : Int)] 3))); have hsz : W1.heap.size <= w1.heap.size := EE1.o.size_le; go_wp2_with (at_builtin; refine wpList_append_own_at _ rfl (.tmp 16) (.tmp 18) 39 rfl W1.heap.size 3 i0 (.int .i64 0) 1 8 jZG hi hz0 hz1 hz2 rfl (by decide) (.slice po m co) m _ rfl HOX.o ⟨w1.heap.size, 0, none⟩ 1 1 [.int .i64 (k : Int)] rfl rfl ?c1 ?c2 ?c3 ?c4 ?c5 ?_)
    case c1 => exact jZz rfl
    case c2 => intro u hu; simp at hu; subst hu; rfl
    case c3 => unfold maxLen; omega
    case c4 => omega
    case c5 => simp; omega
    intro v' w5 hown' hgrow _ hat
    obtain ⟨po', co', rfl⟩ : ∃ po' co', v' = .slice po' (m + 1) co' := by
     rcases hown'.2 with ⟨rfl, hn0⟩ | ⟨g, cap, cur, e, _⟩
     ·exact absurd hn0 (by omega)
     ·exact ⟨_, cap, e⟩
    have HRW' : Hid (w5.ownsRow W1.heap.size 3 1 (.slice po' (m + 1) co') (m + 1) ((ploTo ars ps z (k + 1)).map (Value.int .i64))) := hid (by rw [HN2.o, List.map_append]; simpa using hown'); have HE5 := hid ((EE1.o.alloc (.cells #[.int .i64 (k : Int)] 3)).grown hgrow (fun b hb => (HOX.o.lt b hb).1)); clear hown' hgrow hat
    go_wp2; go_roundw
    case rel => exact ⟨k + 1, m + 1, _, _, by omega, by go_num, rfl, by rw [HN2.o, List.length_append, HM.o]; rfl, HRW'.o, HE5.o⟩
    case measure => simp [intOf]; omega
  ·obtain rfl : k = 4 := by omega
   go_wp2; go_ret; exact ⟨⟨_, rfl, (jZ1.mk HO.o HM.o).weak E1.o.size_le⟩, E1.o.trans HE.o⟩
end
section
open Go.RowKit Go.Maps
def fl2 (ds : List (Value × Value)) : List Value := ds.flatMap (fun d => [d.1, d.2])
theorem jY5A : ∀ {ds : List (Value × Value)} {i : Nat} {d : Value × Value}, ds[i]? = some d -> (fl2 ds)[i * 2]? = some d.1 /\ (fl2 ds)[i * 2 + 1]? = some d.2
 | [], _, _, h => by simp at h
 | y :: r, 0, d, h => by
  simp only [List.getElem?_cons_zero, Option.some.injEq] at h; subst h; exact ⟨rfl, rfl⟩
 | y :: r, i + 1, d, h => by
  rw [List.getElem?_cons_succ] at h; obtain ⟨h1, h2⟩ := jY5A h; rw [show (i + 1) * 2 = i * 2 + 2 by omega]; exact ⟨by simpa [fl2] using h1, by simpa [fl2] using h2⟩
theorem jY6h (ds : List (Value × Value)) (a b : Value) : fl2 (ds ++ [(a, b)]) = fl2 ds ++ [a, b] := by unfold fl2; rw [List.flatMap_append]; rfl
theorem jY5x {W : World} {g : Nat} {a b c d e f e' : Value} {t : TypeId} (h : W.heap[g]? = some (.cells #[a, b, c, d, e, f] t (0, 0))) : (W.setCell ⟨g, 4, none⟩ e').heap[g]? = some (.cells #[a, b, c, d, e', f] t (0, 0)) := by
 have h1 := heap_setCell_same W g 4 _ t e' h
 simpa using h1
theorem jY5Q {W W' : World} {b o : Nat} (h : W'.heap[b]? = W.heap[b]?) : W'.cell? ⟨b, o, none⟩ = W.cell? ⟨b, o, none⟩ := by
 unfold World.cell?
 simp only [h]
theorem infoDr : (Tryz.prog.info? 117).map (fun i => (i.zero, i.size, i.bytes)) = some (some (.agg #[.slice none 0 0, .slice none 0 0]), 2, 48) := by kernel_rfl
theorem jY2I : Tryz.prog.underlying 108 = some (.slice 117) := by kernel_rfl
def DrL (ps : List Pt) (ds : List (Value × Value)) : Prop := ∀ (i : Nat) (d : Value × Value), ds[i]? = some d -> ∃ pt q c q' n' c', ps[i]? = some pt /\ d = (.slice q pt.1.length c, .slice q' n' c')
theorem DrL.push {ps : List Pt} {ds : List (Value × Value)} (h : DrL ps ds) {x : Pt} {q q' : Option Addr} {c n' c' : Nat} (hx : ps[ds.length]? = some x) : DrL ps (ds ++ [(.slice q x.1.length c, .slice q' n' c')]) := by
 intro i d hd
 by_cases hi : i < ds.length
 ·rw [List.getElem?_append_left hi] at hd
  exact h i d hd
 ·have hl := (List.getElem?_eq_some_iff.1 hd).1
  simp at hl; obtain rfl : i = ds.length := by omega
  simp at hd; subst hd; exact ⟨x, q, c, q', n', c', hx, rfl⟩
def SiteR (B : Nat) (w : World) (v : Value) (ars : List Arr) (ps : List Pt) (z : Int) : Prop :=
 ∃ mo T q1 n1 c1 q2 M c2, ∃ es : List Ev, ∃ p d ds Be, v = .agg #[.map mo, .int .i64 T, .slice q1 n1 c1, .slice q2 M c2, .slice p ps.length d, .int .i64 z] /\ es.length = M /\ M <= 120 /\ EvsOwn Be w (.slice q2 M c2) es /\ dstF (dsE es z (dpOf (kEv es) (prTo M M))) = distB ars ps z /\
  (∀ a ∈ es, ∀ b ∈ es, a.1.2.2.length <= 4 /\ (∀ x ∈ a.1.2.2, -1000000 <= x /\ x <= 1000000) /\ (∀ x ∈ b.1.2.2, -1000000 <= x /\ x <= 1000000) /\ (a.1.1 = b.1.1 -> b.1.2.2.length = a.1.2.2.length)) /\
  w.ownsRow B 117 2 (.slice p ps.length d) ps.length (fl2 ds) /\ ds.length = ps.length /\ DrL ps ds
theorem jWv {w W : World} (h : Ext w W) {g : Nat} (hg : w.heap.size <= g) (a b c d e f : Value) : Ext w ((((((W.setCell ⟨g, 0, none⟩ a).setCell ⟨g, 1, none⟩ b).setCell ⟨g, 2, none⟩ c).setCell ⟨g, 3, none⟩ d).setCell ⟨g, 4, none⟩ e).setCell ⟨g, 5, none⟩ f) :=
 (((((h.setCell (p := ⟨g, 0, none⟩) hg a).setCell (p := ⟨g, 1, none⟩) hg b).setCell (p := ⟨g, 2, none⟩) hg c).setCell (p := ⟨g, 3, none⟩) hg d).setCell (p := ⟨g, 4, none⟩) hg e).setCell (p := ⟨g, 5, none⟩) hg f
theorem jY2t {ars : List Arr} {p : Pt} (h : partB ars p = true) : p.1.length <= 4 /\ ∀ l ∈ p.1, (∀ a ∈ l.1, jZ5 a.1 a.2 = true) /\ (∀ a ∈ l.2, jZ5 a.1 a.2 = true) /\ l.1.length <= 2 /\ l.2.length <= 2 := by
 unfold partB at h
 simp only [Bool.and_eq_true] at h
 have hn := jWa h.1
 obtain ⟨h4, hl⟩ := jZy.1 hn
 have side : ∀ (zs : List Aff) (d : Int), sideB zs d = true -> (∀ a ∈ zs, jZ5 a.1 a.2 = true) /\ zs.length <= 2 := fun zs d hz => by
  unfold sideB boundB at hz; simp only [Bool.and_eq_true, decide_eq_true_eq, List.all_eq_true] at hz; exact ⟨fun a ha => (hz.2 a ha).1, hz.1.2⟩
 refine ⟨h4, fun l hlm => ?_⟩
 obtain ⟨i, hi⟩ := List.mem_iff_getElem?.1 hlm
 have hb := hl i l hi
 unfold loopB at hb
 simp only [Bool.and_eq_true] at hb
 obtain ⟨s1, s2⟩ := side _ _ hb.1
 obtain ⟨s3, s4⟩ := side _ _ hb.2
 exact ⟨s1, s3, s2, s4⟩
theorem jY3U (v : Value) (ars : List Arr) (ps : List Pt) (z : Int) (w : World) (hp : PrR w v ars ps) :
  Calls Tryz.prog 77 #[v, .int .i64 z] w fun e w' => (∃ v', e = .returned (.tuple #[v', .bool (siteB ars ps z)]) /\ (siteB ars ps z = false -> v' = .agg #[.map none, .int .i64 0, .slice none 0 0, .slice none 0 0, .slice none 0 0, .int .i64 0]) /\ (siteB ars ps z = true -> SiteR w.heap.size w' v' ars ps z)) /\ Ext w w' := by
 obtain ⟨i0, hi, hz0, hz1, hz2⟩ := info_parts infoDr
 obtain ⟨qa, ca, qp, cp, rfl, -, hlp, ha, hps⟩ := hp.parts
 obtain ⟨na, hna⟩ : ∃ n, ars.length = n := ⟨_, rfl⟩
 obtain ⟨np, hnp⟩ : ∃ n, ps.length = n := ⟨_, rfl⟩
 rw [hna] at ha ⊢
 rw [hnp] at hlp hps ⊢
 have HA := hid ha; have HPS := hid hps; have HNA := hid hna; have HNP := hid hnp
 clear hp ha hps hna hnp
 go_enter Tryz.func77, Tryz.ntmps77
 go_wp2_with (fail)
 obtain ⟨W0, hW0⟩ : ∃ W0, ((w.alloc (.cells #[.slice qa na ca, .slice qp np cp] 32)).alloc (.cells #[.map none, .int .i64 0, .slice none 0 0, .slice none 0 0, .slice none 0 0, .int .i64 0] 110)) = W0 := ⟨_, rfl⟩
 have E0 : Hid (Ext w W0) := hid (by rw [<- hW0]; exact ((Ext.refl w).alloc _).alloc _)
 have R0 := hid (show W0.heap[w.heap.size + 1]? = some (.cells #[.map none, .int .i64 0, .slice none 0 0, .slice none 0 0, .slice none 0 0, .int .i64 0] 110 (0, 0)) by rw [<- hW0]; exact blk_at (by simp))
 have P0 := hid (show W0.heap[w.heap.size]? = some (.cells #[.slice qa na ca, .slice qp np cp] 32 (0, 0)) by rw [<- hW0]; exact ((Ext.refl _).alloc _).blk (blk_at rfl))
 try rw [hW0]
 clear hW0
 refine (jY1u qa qp na ca np cp ars ps _ HNA.o HNP.o (HA.o.ext E0.o) (HPS.o.ext E0.o)).mono ?_
 rintro e w1 ⟨⟨v, rfl, h0, h1⟩, hE⟩
 have E1 := hid (E0.o.trans hE); have R1 := hid (hE.blk R0.o); have P1 := hid (hE.blk P0.o)
 clear hE
 obtain ⟨pb, hpb⟩ : ∃ b, progB ars ps = b := ⟨_, rfl⟩
 rw [hpb] at h0 h1 ⊢
 have HPB := hid hpb
 clear hpb
 cases pb with
 | false =>
  have hv := h0 rfl; subst hv; have HM : Hid (siteB ars ps z = false) := hid (by unfold siteB; rw [HPB.o]; rfl); clear h0 h1; have E2 := hid (E1.o.alloc (.cells #[.map none, .int .i64 0, .slice none 0 0, .slice none 0 0] 70)); have R2 := hid (jZ4 (o := .cells #[.map none, .int .i64 0, .slice none 0 0, .slice none 0 0] 70) R1.o); go_upto_region 3 with (fail)
  generalize w1.alloc (.cells #[.map none, .int .i64 0, .slice none 0 0, .slice none 0 0] 70) = w2 at *; have hl2 := lt_of_block R2.o; obtain ⟨r0, r1, r2, r3, r4, r5, rf⟩ := blk6 R2.o; have f0 := rf 0; have f1 := rf 1; have f2 := rf 2; have f3 := rf 3; have f4 := rf 4; have f5 := rf 5; have HZ := hid (jVx (a' := .map none) (b' := .int .i64 0) (c' := .slice none 0 0) (d' := .slice none 0 0) (e' := .slice none 0 0) (f' := .int .i64 0) R2.o); clear rf; go_wp2; have HX := hid (jWv E2.o (g := w.heap.size + 1) (by omega) (.map none) (.int .i64 0) (.slice none 0 0) (.slice none 0 0) (.slice none 0 0) (.int .i64 0)); generalize ((((((w2.setCell ⟨w.heap.size + 1, 0, none⟩ (.map none)).setCell ⟨w.heap.size + 1, 1, none⟩ (.int .i64 0)).setCell ⟨w.heap.size + 1, 2, none⟩ (.slice none 0 0)).setCell ⟨w.heap.size + 1, 3, none⟩ (.slice none 0 0)).setCell ⟨w.heap.size + 1, 4, none⟩ (.slice none 0 0)).setCell ⟨w.heap.size + 1, 5, none⟩ (.int .i64 0)) = w3 at *; obtain ⟨z0, z1, z2, z3, z4, z5, -⟩ := blk6 HZ.o; exact bodyPost_ret (v := .tuple #[.agg #[.map none, .int .i64 0, .slice none 0 0, .slice none 0 0, .slice none 0 0, .int .i64 0], .bool false]) (by simp [results, Tryz.results77, go_sem, z0, z1, z2, z3, z4, z5]) rfl ⟨⟨_, by rw [HM.o], fun _ => rfl, fun h => by rw [HM.o] at h; cases h⟩, HX.o⟩
 | true =>
  have hpg := h1 rfl; obtain ⟨mo, T, q1, n1, c1, q2, M, c2, es, rfl, hM, hM120, hev, hdl, hes⟩ := jY4r v ars ps z _ _ _ (fun h => by rw [HPB.o] at h; cases h) (fun _ => hpg); obtain ⟨Bm, D, q1', c1', q2', c2', hv, -, -, -, hpo, -⟩ := hpg; simp only [Value.agg.injEq, Array.mk.injEq, List.cons.injEq, Value.slice.injEq, Value.map.injEq, Value.int.injEq, and_true, true_and] at hv; obtain ⟨rfl, rfl, ⟨rfl, rfl, rfl⟩, ⟨rfl, rfl, rfl⟩⟩ := hv; rw [HNP.o] at hpo ⊢; have HPO := hid hpo; have HMM := hid hM; have HEV := hid hev; have HDL := hid hdl; have HES := hid hes; obtain ⟨T, hT⟩ : ∃ T, totN ars = T := ⟨_, rfl⟩; obtain ⟨M, hMv⟩ : ∃ M, (evsOf ars ps).length = M := ⟨_, rfl⟩; rw [hMv] at HEV HDL HMM hM120 ⊢; rw [hT]; clear h0 h1 hpo hM hev hdl hes hT hMv; have hnp4 : np <= 4 := by have := (jXB HPB.o).2.1; rw [HNP.o] at this; exact this
  by_cases hz : 0 <= z /\ z < np
  ·obtain ⟨zk, rfl⟩ : ∃ k : Nat, z = k := ⟨z.toNat, by omega⟩
   have HM : Hid (siteB ars ps (zk : Int) = true) := hid (by unfold siteB; rw [HPB.o, HNP.o]; simp; omega); have hd0 : decide ((zk : Int) < 0) = false := by simp
   have hd1 : decide ((np : Int) <= (zk : Int)) = false := by simp; omega
   obtain ⟨y0, y1, -, -⟩ := blk2 P1.o; have hl1 := lt_of_block P1.o; go_upto_region 5 with (fail)
   have hd2 : decide (np <= zk) = false := by simp; omega
   have hd3 : decide ((zk : Int) ≥ (np : Int)) = false := by simp; omega
   try rw [hd1]
   try rw [hd3]
   try rw [hd2]
   clear hd2 hd3; obtain ⟨wc, hwc⟩ : ∃ x, (w1.alloc (.cells #[.map (some Bm), .int .i64 T, .slice q1 np c1, .slice q2 M c2] 70)).alloc (.cells #[.map (some Bm), .int .i64 T, .slice q1 np c1, .slice q2 M c2, .slice none 0 0, .int .i64 (zk : Int)] 110) = x := ⟨_, rfl⟩; have E1c : Hid (Ext w1 wc) := hid (by rw [<- hwc]; exact ((Ext.refl w1).alloc _).alloc _); have P6 : Hid (wc.heap[w1.heap.size]? = some (.cells #[.map (some Bm), .int .i64 T, .slice q1 np c1, .slice q2 M c2] 70 (0, 0))) := hid (by rw [<- hwc]; exact ((Ext.refl _).alloc _).blk (blk_at rfl)); have B8 : Hid (wc.heap[w1.heap.size + 1]? = some (.cells #[.map (some Bm), .int .i64 T, .slice q1 np c1, .slice q2 M c2, .slice none 0 0, .int .i64 (zk : Int)] 110 (0, 0))) := hid (by rw [<- hwc]; exact blk_at (by simp))
   try rw [hwc]
   clear hwc y0 y1 hl1 hd0 hd1; obtain ⟨g6, hg6⟩ : ∃ g, w1.heap.size = g := ⟨_, rfl⟩; obtain ⟨g8, hg8⟩ : ∃ g, g6 + 1 = g := ⟨_, rfl⟩; have HG8 := hid hg8; have HG6 := hid hg6; rw [hg6] at P6 B8
   try rw [hg6]
   rw [hg8] at B8
   try rw [hg8]
   clear hg6 hg8; obtain ⟨Lo, hLo⟩ : ∃ L, wc.heap.size = L := ⟨_, rfl⟩; have HLO := hid hLo; clear hLo; have hLg8 : g8 < Lo := by have := lt_of_block B8.o; have := HLO.o; omega
   have PC := hid (E1c.o.blk P1.o); have RC := hid (E1c.o.blk R1.o); obtain ⟨y0, y1, -, -⟩ := blk2 PC.o; go_wp2
   go_loopw [36] (fun iv wr => ∃ (k : Nat) (p : Option Addr) (d : Nat) (ds : List (Value × Value)), k <= np /\ iv = .int .i64 k /\ wr.heap[g8]? = some (.cells #[.map (some Bm), .int .i64 T, .slice q1 np c1, .slice q2 M c2, .slice p k d, .int .i64 (zk : Int)] 110 (0, 0)) /\
    wr.ownsRow Lo 117 2 (.slice p k d) k (fl2 ds) /\ ds.length = k /\ DrL ps ds /\ Lv (fun b => b = g8) wc wr) (fun iv _ => np - (intOf iv).toNat)
   case atStart => exact ⟨0, none, 0, [], by omega, rfl, B8.o, World.ownsRow_nil _ _ _ _, rfl, fun i d h => by simp at h, Lv.refl _ _⟩
   case round =>
    obtain ⟨k, p, d, ds, hk, rfl, hg8, ho, hdl, hdr, hL⟩ := hrel; have G8 := hid hg8; have HO := hid ho; have HDS := hid hdl; have HDR := hid hdr; have HL := hid hL; have hszL : Lo <= wr.heap.size := by have := hL.size; rw [HLO.o] at this; exact this
    have EW : Hid (Ext w1 wr) := hid (Lv.ext0 hL E1c.o (fun b hb => by have := HG6.o; have := HG8.o; omega)); clear hg8 ho hdl hdr hL y0 y1; by_cases hlt : k < np
    ·obtain ⟨x, hx⟩ := jZ0 (xs := ps) (k := k) (by rw [HNP.o]; exact hlt)
     obtain ⟨hL4, hvl⟩ := jY2t ((jXB HPB.o).2.2.1 x (List.mem_of_getElem? hx)); obtain ⟨b, off, qn, cn, qx, cx, rfl, e0, e1, hbb, hls, hss⟩ := (HPS.o.ext (E1.o.trans EW.o)).elem hx; obtain ⟨o1, u0, u1, rfl, hol, z0, z1, hpart⟩ := jZs.at2 (jZs.ext HPO.o EW.o) HNP.o hx; obtain ⟨qb, cb, rfl⟩ := hpart.2.form; obtain ⟨nl, hnl⟩ : ∃ m, x.1.length = m := ⟨_, rfl⟩; obtain ⟨nb, hnb⟩ : ∃ m, x.2.length = m := ⟨_, rfl⟩; rw [hnl] at e0 hls hL4; rw [hnb] at e1 z1; have EZ : Ext wr (wr.alloc (.cells #[.slice qn nl cn, .slice qx nb cx] 145)) := (Ext.refl wr).alloc _; have BZ : Hid ((wr.alloc (.cells #[.slice qn nl cn, .slice qx nb cx] 145)).heap[wr.heap.size]? = some (.cells #[.slice qn nl cn, .slice qx nb cx] 145 (0, 0))) := hid (blk_at rfl); have HX := hid hx; have HL4 := hid hL4; have HVL := hid hvl; have HNL := hid hnl; have HLS := hid (hls.ext EZ); have Z1 := hid (EZ.keep z1); have P6Z := hid (EZ.blk (HL.o.heap P6.o (by have := HG8.o; omega))); have G8Z := hid (EZ.blk G8.o); have HRO := hid (jZ3 HO.o EZ); have HOW : Hid (∀ r, (Value.slice p k d).ownBlock = some r -> Lo <= r /\ r < wr.heap.size) := hid (fun r hr => World.ownsRow.lt HO.o r hr)
     -- the blocks of the parts were there before the loop
     have ho1 : o1 < Lo := by
      obtain ⟨o1', -, -, e', hl', -, -, -⟩ := jZs.at2 HPO.o HNP.o hx; cases e'
      have := E1c.o.size_le; have := HLO.o; omega
     have hne1 : Hid (o1 ≠ g8) := hid (by
      obtain ⟨o1', -, -, e', hl', -, -, -⟩ := jZs.at2 HPO.o HNP.o hx; cases e'
      have := HG6.o; have := HG8.o
      omega)
     have ho1L := hid ho1; have hg8r : g8 < wr.heap.size := by omega
     clear hx hL4 hvl hls hss hpart z0 z1 ho1 hnl hnb hol; go_upto_region 8 with (fail)
     obtain ⟨g10, hg10⟩ : ∃ g, wr.heap.size = g := ⟨_, rfl⟩; obtain ⟨wz, hwz⟩ : ∃ x, wr.alloc (.cells #[.slice qn nl cn, .slice qx nb cx] 145) = x := ⟨_, rfl⟩; rw [hg10] at BZ HOW hg8r hszL; rw [hwz] at BZ HLS Z1 P6Z G8Z HRO EZ
     try rw [hg10]
     try rw [hwz]
     have HEZ := hid EZ; have HG10 := hid hg10; have HLZ : Hid (Lo <= wz.heap.size) := hid (by have := EZ.size_le; omega); clear hwz EZ e0 e1 hg10; have HN8 : Hid (some g8 ≠ (Value.slice p k d).ownBlock) := hid (fun e => by have := (HOW.o g8 e.symm).1; omega); have HSV : Hid (∀ W : World, W.heap[g10]? = wz.heap[g10]? -> W.heap[g6]? = wz.heap[g6]? -> W.heap[o1]? = wz.heap[o1]? -> W.cell? ⟨g10, 0, none⟩ = some (.slice qn nl cn) /\ W.cell? ⟨g6, 2, none⟩ = some (.slice (some ⟨o1, 0, none⟩) np c1) /\ W.cell? ⟨o1, k * 2 + 1, none⟩ = some (.slice qb nb cb)) := hid (fun W h1 h2 h3 => ⟨(blk2 (h1.trans BZ.o)).1, (blk4' (h2.trans P6Z.o)).2.2.1, (jY5Q h3).trans Z1.o⟩); have hl10 : g10 < wz.heap.size := lt_of_block BZ.o; have hl6 : g6 < Lo := by have := HG8.o; omega
     have HSO : Hid (∀ W : World, Ext wz W -> W.cell? ⟨g10, 0, none⟩ = some (.slice qn nl cn) /\ W.cell? ⟨g6, 2, none⟩ = some (.slice (some ⟨o1, 0, none⟩) np c1) /\ W.cell? ⟨o1, k * 2 + 1, none⟩ = some (.slice qb nb cb)) := hid (fun W h => HSV.o W (h.block g10 hl10) (h.block g6 (by have := HLZ.o; omega)) (h.block o1 (by have := HLZ.o; have := ho1L.o; omega)))
     have HBL : Hid (∀ A W : World, Ext wz A -> A.grownBy W (Value.slice p k d).ownBlock -> W.heap[g10]? = wz.heap[g10]? /\ W.heap[g6]? = wz.heap[g6]? /\ W.heap[o1]? = wz.heap[o1]?) := hid (fun A W h hg => by
      have hs := h.size_le; have hz := HLZ.o; have ho := ho1L.o
      exact ⟨(hg.block g10 (by omega) (fun e => by have := (HOW.o g10 e.symm).2; omega)).trans (h.block g10 hl10), (hg.block g6 (by omega) (fun e => by have := (HOW.o g6 e.symm).1; omega)).trans (h.block g6 (by omega)), (hg.block o1 (by omega) (fun e => by have := (HOW.o o1 e.symm).1; omega)).trans (h.block o1 (by omega))⟩)
     have HSO7 : Hid (∀ A W : World, Ext wz A -> A.grownBy W (Value.slice p k d).ownBlock -> W.cell? ⟨g10, 0, none⟩ = some (.slice qn nl cn) /\ W.cell? ⟨g6, 2, none⟩ = some (.slice (some ⟨o1, 0, none⟩) np c1) /\ W.cell? ⟨o1, k * 2 + 1, none⟩ = some (.slice qb nb cb)) := hid (fun A W h hg => by obtain ⟨a1, a2, a3⟩ := HBL.o A W h hg; exact HSV.o W a1 a2 a3)
     have HSO8 : Hid (∀ (A W : World) (u : Value), Ext wz A -> A.grownBy W (Value.slice p k d).ownBlock -> (W.setCell ⟨g8, 4, none⟩ u).cell? ⟨g10, 0, none⟩ = some (.slice qn nl cn) /\ (W.setCell ⟨g8, 4, none⟩ u).cell? ⟨g6, 2, none⟩ = some (.slice (some ⟨o1, 0, none⟩) np c1) /\ (W.setCell ⟨g8, 4, none⟩ u).cell? ⟨o1, k * 2 + 1, none⟩ = some (.slice qb nb cb)) := hid (fun A W u h hg => by
      obtain ⟨a1, a2, a3⟩ := HBL.o A W h hg; have hgg := HG8.o
      exact HSV.o _ ((Below.heap_setCell W ⟨g8, 4, none⟩ u g10 (by show g10 ≠ g8; omega)).trans a1) ((Below.heap_setCell W ⟨g8, 4, none⟩ u g6 (by show g6 ≠ g8; omega)).trans a2) ((Below.heap_setCell W ⟨g8, 4, none⟩ u o1 (by show o1 ≠ g8; exact hne1.o)).trans a3))
     have HSTEP : Hid (∀ (A w7 : World) (qd : Option Addr) (cd : Nat) (p5 : Option Addr) (d5 : Nat), Ext wz A -> A.grownBy w7 (Value.slice p k d).ownBlock -> w7.ownsRow Lo 117 2 (.slice p5 (k + 1) d5) (k + 1) (fl2 ds ++ [.slice qd nl cd, .slice qb nb cb]) ->
       ∃ (k' : Nat) (p' : Option Addr) (d' : Nat) (ds' : List (Value × Value)), k' <= np /\ Value.int .i64 ((k : Int) + 1) = .int .i64 k' /\ (w7.setCell ⟨g8, 4, none⟩ (.slice p5 (k + 1) d5)).heap[g8]? = some (.cells #[.map (some Bm), .int .i64 T, .slice (some ⟨o1, 0, none⟩) np c1, .slice q2 M c2, .slice p' k' d', .int .i64 (zk : Int)] 110 (0, 0)) /\
        (w7.setCell ⟨g8, 4, none⟩ (.slice p5 (k + 1) d5)).ownsRow Lo 117 2 (.slice p' k' d') k' (fl2 ds') /\ ds'.length = k' /\ DrL ps ds' /\ Lv (fun b => b = g8) wc (w7.setCell ⟨g8, 4, none⟩ (.slice p5 (k + 1) d5))) := hid (fun A w7 qd cd p5 d5 hA hg hown => by
      refine ⟨k + 1, p5, d5, ds ++ [(.slice qd nl cd, .slice qb nb cb)], by omega, by go_num, jY5x (jZg hg (hA.blk G8Z.o) HN8.o), ?_, by rw [List.length_append, HDS.o]; rfl, ?_, ?_⟩
      ·rw [jY6h]
       exact ownsRow_setCell_below hown (a := ⟨g8, 4, none⟩) hLg8 _
      ·have h := DrL.push (q := qd) (c := cd) (q' := qb) (n' := nb) (c' := cb) HDR.o (x := x) (by rw [HDS.o]; exact HX.o)
       rw [HNL.o] at h; exact h
      ·refine ((HL.o.trans ((HEZ.o.trans hA).lv (D := fun _ => False)) (E := fun b => b = g8) (fun _ _ h => h) (fun _ _ h => h.elim)).trans (Lv.grown (D := fun b => Lo <= b) hg (fun r hr _ => (HOW.o r hr).1)) (E := fun b => b = g8) (fun _ _ h => h) (fun b hb h => ?_)).trans (lv_set _ g8 4 _) (fun _ _ h => h) (fun _ _ h => h)
       rw [HLO.o] at hb
       omega)
     have cPz := (blk6 G8Z.o).2.2.2.2.1; refine wp_region_held_drew (S := (fun W => W.cell? ⟨g10, 0, none⟩ = some (.slice qn nl cn) /\ W.cell? ⟨g6, 2, none⟩ = some (.slice (some ⟨o1, 0, none⟩) np c1) /\ W.cell? ⟨o1, k * 2 + 1, none⟩ = some (.slice qb nb cb))) (by kernel_rfl) (HSO.o _ (Ext.refl wz).drew) (fun hHeld => ?_); refine tkD9 (some 41) 0 ?vs1 rfl (by kernel_rfl) (by kernel_rfl) (fun _ _ _ h => h) (Or.inl ⟨by rfl, ?hys1⟩) (by assumption) ?rs1
     case hys1 => intro w hSw; (try dsimp only at hSw); go_simp; first | done | with_reducible rfl
     case' rs1 => try simp only [Act.put, sA9, sZ9, sS9]
     refine tkD9 (some 43) 2 ?vs2 rfl (by kernel_rfl) (by kernel_rfl) (fun _ _ _ h => h) (Or.inl ⟨by rfl, ?hys2⟩) (by assumption) ?rs2
     case hys2 => intro w hSw; (try dsimp only at hSw); go_simp; first | done | with_reducible rfl
     case' rs2 => try simp only [Act.put, sA9, sZ9, sS9]
     refine tkD9 (some 44) 3 ?vs3 rfl (by kernel_rfl) (by kernel_rfl) (fun _ _ _ h => h) (Or.inl ⟨by rfl, ?hys3⟩) (by assumption) ?rs3
     case hys3 => intro w hSw; (try dsimp only at hSw); go_simp; first | done | with_reducible rfl
     case' rs3 => try simp only [Act.put, sA9, sZ9, sS9]
     refine tkD9 (some 46) 5 ?vs4 rfl (by kernel_rfl) (by kernel_rfl) (fun _ _ _ h => h) (Or.inl ⟨by rfl, ?hys4⟩) (by assumption) ?rs4
     case hys4 => intro w hSw; (try dsimp only at hSw); go_simp; first | done | with_reducible rfl
     case' rs4 => try simp only [Act.put, sA9, sZ9, sS9]
     refine tkD9 (some 47) 6 ?vs5 rfl (by kernel_rfl) (by kernel_rfl) (fun _ _ _ h => h) (Or.inl ⟨by rfl, ?hys5⟩) (by assumption) ?rs5
     case hys5 => intro w hSw; (try dsimp only at hSw); go_simp; first | done | with_reducible rfl
     case' rs5 => try simp only [Act.put, sA9, sZ9, sS9]
     refine tkD9 (some 48) 7 ?vs6 rfl (by kernel_rfl) (by kernel_rfl) (fun _ _ _ h => h) (Or.inl ⟨by rfl, ?hys6⟩) (by assumption) ?rs6
     case hys6 => intro w hSw; (try dsimp only at hSw); go_simp; first | done | with_reducible rfl
     case' rs6 => try simp only [Act.put, sA9, sZ9, sS9]
     refine tkD9 (some 49) 8 ?vs7 rfl (by kernel_rfl) (by kernel_rfl) (fun _ _ _ h => h) (Or.inl ⟨by rfl, ?hys7⟩) (by assumption) ?rs7
     case hys7 => intro w hSw; (try dsimp only at hSw); go_simp; first | done | with_reducible rfl
     case' rs7 => try simp only [Act.put, sA9, sZ9, sS9]
     refine tkD9 (some 50) 9 ?vs8 rfl (by kernel_rfl) (by kernel_rfl) (fun _ _ _ h => h) (Or.inl ⟨by rfl, ?hys8⟩) (by assumption) ?rs8
     case hys8 => intro w hSw; (try dsimp only at hSw); go_simp; first | done | with_reducible rfl
     case' rs8 => try simp only [Act.put, sA9, sZ9, sS9]
     refine tkD9 (some 51) 10 ?vs9 rfl (by kernel_rfl) (by kernel_rfl) (fun _ _ _ h => h) (Or.inl ⟨by rfl, ?hys9⟩) (by assumption) ?rs9
     case hys9 => intro w hSw; (try dsimp only at hSw); go_simp; first | done | with_reducible rfl
     case' rs9 => try simp only [Act.put, sA9, sZ9, sS9]
     refine wpAnyH_ready (rs := [1, 4]) (by kernel_rfl) (by simp) ?_; refine AllReadyH.cons rfl (fun K9 hK => ?_) (AllReadyH.cons rfl (fun K9 hK => ?_) AllReadyH.nil)
     ·skip
      go_simp; refine hK.out _ _ (HSO.o _ (Ext.refl wz).drew) (fun hHs10 => ?_); clear hK K9
      try simp only [Act.put, sA9, sZ9, sS9]
      refine wpAnyH_ready (rs := [4]) (by kernel_rfl) (by simp) ?_; refine AllReadyH.cons rfl (fun K9 hK => ?_) AllReadyH.nil
      (go_simp; refine (jVg qn nl cn x.1 _ HNL.o (HLS.o.ext (Ext.refl wz).drew) HVL.o HL4.o).mono ?_; rintro e v4 ⟨⟨qd, cd, rfl⟩, hE4⟩; have EX : Ext wz v4 := (Ext.refl wz).drew.trans hE4; have KP4 := EX.blk G8Z.o; have cP4 := (blk6 KP4).2.2.2.2.1; have cP5 := (blk6 (((Ext.refl v4).alloc (.cells #[.slice qd nl cd, .slice qb nb cb] 117)).blk KP4)).2.2.2.2.1)
      refine hK.out _ _ (HSO.o _ EX) (fun hHs11 => ?_); clear hK K9
      try simp only [Act.put, sA9, sZ9, sS9]
      refine tkD9 (some 52) 11 ?vs12 rfl (by kernel_rfl) (by kernel_rfl) (fun _ _ _ h => h) (Or.inl ⟨by rfl, ?hys12⟩) (by assumption) ?rs12
      case hys12 => intro w hSw; (try dsimp only at hSw); go_simp; first | done | with_reducible rfl
      case' rs12 => try simp only [Act.put, sA9, sZ9, sS9]
      refine wpAnyH_ready (rs := [12]) (by kernel_rfl) (by simp) ?_; refine AllReadyH.cons rfl (fun K9 hK => ?_) AllReadyH.nil; go_simp; refine hK.out _ _ (HSO.o _ (EX.trans ((Ext.refl v4).alloc _))) (fun hHs13 => ?_); clear hK K9
      try simp only [Act.put, sA9, sZ9, sS9]
      refine wpAnyH_ready (rs := [13]) (by kernel_rfl) (by simp) ?_; refine AllReadyH.cons rfl (fun K9 hK => ?_) AllReadyH.nil
      (have EA : Ext v4 (v4.alloc (.cells #[.slice qd nl cd, .slice qb nb cb] 117)) := (Ext.refl v4).alloc _; have EXA := EX.trans EA; have ho := jZ3 HRO.o EXA; refine jZo _ rfl (.tmp 42) (.tmp 53) 108 rfl Lo 117 i0 (.agg #[.slice none 0 0, .slice none 0 0]) 2 48 jY2I hi hz0 hz1 hz2 rfl (by decide) (.slice p k d) k (fl2 ds) rfl ho ⟨v4.heap.size, 0, none⟩ 1 1 [.slice qd nl cd, .slice qb nb cb] rfl rfl (jWP rfl) (by intro u hu; simp at hu; rcases hu with rfl | rfl <;> rfl) (by unfold maxLen; omega) (by omega) (by have := HLZ.o; have := EXA.size_le; omega) ?_; intro v' w7 hown7 hgr7 hnil7 hat7; obtain ⟨p5, d5, rfl⟩ := jXz hown7; have KP7 := jZg hgr7 (EXA.blk G8Z.o) HN8.o; have cP7 := (blk6 KP7).2.2.2.2.1; have fP7 := (blk6 KP7).2.2.2.2.2.2 4)
      refine hK.out _ _ (HSO7.o _ _ EXA hgr7) (fun hHs14 => ?_); clear hK K9
      try simp only [Act.put, sA9, sZ9, sS9]
      refine tkD9 (some 55) 14 ?vs15 rfl (by kernel_rfl) (by kernel_rfl) (fun _ _ _ h => h) (Or.inl ⟨by rfl, ?hys15⟩) (by assumption) ?rs15
      case hys15 => intro w hSw; (try dsimp only at hSw); go_simp; first | done | with_reducible rfl
      case' rs15 => try simp only [Act.put, sA9, sZ9, sS9]
      refine wpAnyH_ready (rs := [15]) (by kernel_rfl) (by simp) ?_; refine AllReadyH.cons rfl (fun K9 hK => ?_) AllReadyH.nil; go_simp; refine hK.out _ _ (HSO8.o _ _ _ EXA hgr7) (fun hHs16 => ?_); clear hK K9
      try simp only [Act.put, sA9, sZ9, sS9]
      refine wpAnyH_done (by kernel_rfl) ?_ _; have hst := HSTEP.o _ _ qd cd p5 d5 EXA hgr7 hown7; clear ho hown7 hgr7 hnil7 hat7 hHeld KP7 cP7 fP7 KP4 cP4 cP5 EX EA EXA hE4; go_wp2; go_roundw
      case rel => exact hst
      case measure => simp [intOf]; omega
     ·skip
      (go_simp; refine (jVg qn nl cn x.1 _ HNL.o (HLS.o.ext (Ext.refl wz).drew) HVL.o HL4.o).mono ?_; rintro e v4 ⟨⟨qd, cd, rfl⟩, hE4⟩; have EX : Ext wz v4 := (Ext.refl wz).drew.trans hE4; have KP4 := EX.blk G8Z.o; have cP4 := (blk6 KP4).2.2.2.2.1; have cP5 := (blk6 (((Ext.refl v4).alloc (.cells #[.slice qd nl cd, .slice qb nb cb] 117)).blk KP4)).2.2.2.2.1)
      refine hK.out _ _ (HSO.o _ EX) (fun hHs17 => ?_); clear hK K9
      try simp only [Act.put, sA9, sZ9, sS9]
      refine tkD9 (some 52) 11 ?vs18 rfl (by kernel_rfl) (by kernel_rfl) (fun _ _ _ h => h) (Or.inl ⟨by rfl, ?hys18⟩) (by assumption) ?rs18
      case hys18 => intro w hSw; (try dsimp only at hSw); go_simp; first | done | with_reducible rfl
      case' rs18 => try simp only [Act.put, sA9, sZ9, sS9]
      refine wpAnyH_ready (rs := [1, 12]) (by kernel_rfl) (by simp) ?_; refine AllReadyH.cons rfl (fun K9 hK => ?_) (AllReadyH.cons rfl (fun K9 hK => ?_) AllReadyH.nil)
      ·skip
       go_simp; refine hK.out _ _ (HSO.o _ EX) (fun hHs19 => ?_); clear hK K9
       try simp only [Act.put, sA9, sZ9, sS9]
       refine wpAnyH_ready (rs := [12]) (by kernel_rfl) (by simp) ?_; refine AllReadyH.cons rfl (fun K9 hK => ?_) AllReadyH.nil; go_simp; refine hK.out _ _ (HSO.o _ (EX.trans ((Ext.refl v4).alloc _))) (fun hHs20 => ?_); clear hK K9
       try simp only [Act.put, sA9, sZ9, sS9]
       refine wpAnyH_ready (rs := [13]) (by kernel_rfl) (by simp) ?_; refine AllReadyH.cons rfl (fun K9 hK => ?_) AllReadyH.nil
       (have EA : Ext v4 (v4.alloc (.cells #[.slice qd nl cd, .slice qb nb cb] 117)) := (Ext.refl v4).alloc _; have EXA := EX.trans EA; have ho := jZ3 HRO.o EXA; refine jZo _ rfl (.tmp 42) (.tmp 53) 108 rfl Lo 117 i0 (.agg #[.slice none 0 0, .slice none 0 0]) 2 48 jY2I hi hz0 hz1 hz2 rfl (by decide) (.slice p k d) k (fl2 ds) rfl ho ⟨v4.heap.size, 0, none⟩ 1 1 [.slice qd nl cd, .slice qb nb cb] rfl rfl (jWP rfl) (by intro u hu; simp at hu; rcases hu with rfl | rfl <;> rfl) (by unfold maxLen; omega) (by omega) (by have := HLZ.o; have := EXA.size_le; omega) ?_; intro v' w7 hown7 hgr7 hnil7 hat7; obtain ⟨p5, d5, rfl⟩ := jXz hown7; have KP7 := jZg hgr7 (EXA.blk G8Z.o) HN8.o; have cP7 := (blk6 KP7).2.2.2.2.1; have fP7 := (blk6 KP7).2.2.2.2.2.2 4)
       refine hK.out _ _ (HSO7.o _ _ EXA hgr7) (fun hHs21 => ?_); clear hK K9
       try simp only [Act.put, sA9, sZ9, sS9]
       refine tkD9 (some 55) 14 ?vs22 rfl (by kernel_rfl) (by kernel_rfl) (fun _ _ _ h => h) (Or.inl ⟨by rfl, ?hys22⟩) (by assumption) ?rs22
       case hys22 => intro w hSw; (try dsimp only at hSw); go_simp; first | done | with_reducible rfl
       case' rs22 => try simp only [Act.put, sA9, sZ9, sS9]
       refine wpAnyH_ready (rs := [15]) (by kernel_rfl) (by simp) ?_; refine AllReadyH.cons rfl (fun K9 hK => ?_) AllReadyH.nil; go_simp; refine hK.out _ _ (HSO8.o _ _ _ EXA hgr7) (fun hHs23 => ?_); clear hK K9
       try simp only [Act.put, sA9, sZ9, sS9]
       refine wpAnyH_done (by kernel_rfl) ?_ _; have hst := HSTEP.o _ _ qd cd p5 d5 EXA hgr7 hown7; clear ho hown7 hgr7 hnil7 hat7 hHeld KP7 cP7 fP7 KP4 cP4 cP5 EX EA EXA hE4; go_wp2; go_roundw
       case rel => exact hst
       case measure => simp [intOf]; omega
      ·skip
       go_simp; refine hK.out _ _ (HSO.o _ (EX.trans ((Ext.refl v4).alloc _))) (fun hHs24 => ?_); clear hK K9
       try simp only [Act.put, sA9, sZ9, sS9]
       refine wpAnyH_ready (rs := [1]) (by kernel_rfl) (by simp) ?_; refine AllReadyH.cons rfl (fun K9 hK => ?_) AllReadyH.nil; go_simp; refine hK.out _ _ (HSO.o _ (EX.trans ((Ext.refl v4).alloc _))) (fun hHs25 => ?_); clear hK K9
       try simp only [Act.put, sA9, sZ9, sS9]
       refine wpAnyH_ready (rs := [13]) (by kernel_rfl) (by simp) ?_; refine AllReadyH.cons rfl (fun K9 hK => ?_) AllReadyH.nil
       (have EA : Ext v4 (v4.alloc (.cells #[.slice qd nl cd, .slice qb nb cb] 117)) := (Ext.refl v4).alloc _; have EXA := EX.trans EA; have ho := jZ3 HRO.o EXA; refine jZo _ rfl (.tmp 42) (.tmp 53) 108 rfl Lo 117 i0 (.agg #[.slice none 0 0, .slice none 0 0]) 2 48 jY2I hi hz0 hz1 hz2 rfl (by decide) (.slice p k d) k (fl2 ds) rfl ho ⟨v4.heap.size, 0, none⟩ 1 1 [.slice qd nl cd, .slice qb nb cb] rfl rfl (jWP rfl) (by intro u hu; simp at hu; rcases hu with rfl | rfl <;> rfl) (by unfold maxLen; omega) (by omega) (by have := HLZ.o; have := EXA.size_le; omega) ?_; intro v' w7 hown7 hgr7 hnil7 hat7; obtain ⟨p5, d5, rfl⟩ := jXz hown7; have KP7 := jZg hgr7 (EXA.blk G8Z.o) HN8.o; have cP7 := (blk6 KP7).2.2.2.2.1; have fP7 := (blk6 KP7).2.2.2.2.2.2 4)
       refine hK.out _ _ (HSO7.o _ _ EXA hgr7) (fun hHs26 => ?_); clear hK K9
       try simp only [Act.put, sA9, sZ9, sS9]
       refine tkD9 (some 55) 14 ?vs27 rfl (by kernel_rfl) (by kernel_rfl) (fun _ _ _ h => h) (Or.inl ⟨by rfl, ?hys27⟩) (by assumption) ?rs27
       case hys27 => intro w hSw; (try dsimp only at hSw); go_simp; first | done | with_reducible rfl
       case' rs27 => try simp only [Act.put, sA9, sZ9, sS9]
       refine wpAnyH_ready (rs := [15]) (by kernel_rfl) (by simp) ?_; refine AllReadyH.cons rfl (fun K9 hK => ?_) AllReadyH.nil; go_simp; refine hK.out _ _ (HSO8.o _ _ _ EXA hgr7) (fun hHs28 => ?_); clear hK K9
       try simp only [Act.put, sA9, sZ9, sS9]
       refine wpAnyH_done (by kernel_rfl) ?_ _; have hst := HSTEP.o _ _ qd cd p5 d5 EXA hgr7 hown7; clear ho hown7 hgr7 hnil7 hat7 hHeld KP7 cP7 fP7 KP4 cP4 cP5 EX EA EXA hE4; go_wp2; go_roundw
       case rel => exact hst
       case measure => simp [intOf]; omega
    ·obtain rfl : k = np := by omega
     have RR := hid (HL.o.heap RC.o (by have := lt_of_block R1.o; have := HG6.o; have := HG8.o; omega)); have hrw := lt_of_block RR.o; obtain ⟨r0, r1, r2, r3, r4, r5, rf⟩ := blk6 RR.o; have f0 := rf 0; have f1 := rf 1; have f2 := rf 2; have f3 := rf 3; have f4 := rf 4; have f5 := rf 5; obtain ⟨s0, s1, s2, s3, s4, s5, -⟩ := blk6 G8.o; have HZ := hid (jVx (a' := .map (some Bm)) (b' := .int .i64 T) (c' := .slice q1 k c1) (d' := .slice q2 M c2) (e' := .slice p k d) (f' := .int .i64 (zk : Int)) RR.o); have HX := hid (jWv (E1.o.trans EW.o) (g := w.heap.size + 1) (by omega) (.map (some Bm)) (.int .i64 T) (.slice q1 k c1) (.slice q2 M c2) (.slice p k d) (.int .i64 (zk : Int))); have hlv := lv_set6 wr (w.heap.size + 1) (.map (some Bm)) (.int .i64 T) (.slice q1 k c1) (.slice q2 M c2) (.slice p k d) (.int .i64 (zk : Int)); have hw0 : w.heap.size + 2 <= W0.heap.size := lt_of_block R0.o; have hE01 : w.heap.size + 2 <= Lo := by have := lt_of_block R1.o; have := E1c.o.size_le; have := HLO.o; omega
     have HEV2 := hid (EvsOwn.lvB (HEV.o.ext EW.o) hlv (fun b hb => by subst hb; omega)); have HO2 := hid (jZ7 (row_lv HO.o hlv (fun b hb e => by have := (World.ownsRow.lt HO.o b hb).1; omega)) (B' := w.heap.size) (by omega)); clear rf hlv; go_wp2; generalize ((((((wr.setCell ⟨w.heap.size + 1, 0, none⟩ (.map (some Bm))).setCell ⟨w.heap.size + 1, 1, none⟩ (.int .i64 T)).setCell ⟨w.heap.size + 1, 2, none⟩ (.slice q1 k c1)).setCell ⟨w.heap.size + 1, 3, none⟩ (.slice q2 M c2)).setCell ⟨w.heap.size + 1, 4, none⟩ (.slice p k d)).setCell ⟨w.heap.size + 1, 5, none⟩ (.int .i64 (zk : Int))) = w3 at *; obtain ⟨z0, z1, z2, z3, z4, z5, -⟩ := blk6 HZ.o; exact bodyPost_ret (v := .tuple #[.agg #[.map (some Bm), .int .i64 T, .slice q1 k c1, .slice q2 M c2, .slice p k d, .int .i64 (zk : Int)], .bool true]) (by simp [results, Tryz.results77, go_sem, z0, z1, z2, z3, z4, z5]) rfl ⟨⟨_, by rw [HM.o], (fun h => by rw [HM.o] at h; cases h), fun _ => ⟨some Bm, T, q1, k, c1, q2, M, c2, es, p, d, ds, _, by rw [HNP.o], HMM.o, hM120, HEV2.o, HDL.o, HES.o, by rw [HNP.o]; exact HO2.o, by rw [HNP.o]; exact HDS.o, HDR.o⟩⟩, HX.o⟩
  ·have HM : Hid (siteB ars ps z = false) := hid (by
    unfold siteB; rw [HPB.o, HNP.o]; by_cases h3 : 0 <= z
    ·rw [decide_eq_false (show ¬ z < (np : Int) by omega)]; simp
    ·rw [decide_eq_false h3]; rfl)
   have E2 := hid (E1.o.alloc (.cells #[.map (some Bm), .int .i64 T, .slice q1 np c1, .slice q2 M c2] 70)); have R2 := hid (jZ4 (o := .cells #[.map (some Bm), .int .i64 T, .slice q1 np c1, .slice q2 M c2] 70) R1.o); obtain ⟨y0, y1, -, -⟩ := blk2 P1.o; have hl1 := lt_of_block P1.o; by_cases h3 : z < 0
   ·have hd0 : decide (z < 0) = true := by simpa using h3
    clear hz h3; go_upto_region 3 with (fail)
    generalize w1.alloc (.cells #[.map (some Bm), .int .i64 T, .slice q1 np c1, .slice q2 M c2] 70) = w2 at *; have hl2 := lt_of_block R2.o; obtain ⟨r0, r1, r2, r3, r4, r5, rf⟩ := blk6 R2.o; have f0 := rf 0; have f1 := rf 1; have f2 := rf 2; have f3 := rf 3; have f4 := rf 4; have f5 := rf 5; have HZ := hid (jVx (a' := .map none) (b' := .int .i64 0) (c' := .slice none 0 0) (d' := .slice none 0 0) (e' := .slice none 0 0) (f' := .int .i64 0) R2.o); clear rf; go_wp2; have HX := hid (jWv E2.o (g := w.heap.size + 1) (by omega) (.map none) (.int .i64 0) (.slice none 0 0) (.slice none 0 0) (.slice none 0 0) (.int .i64 0)); generalize ((((((w2.setCell ⟨w.heap.size + 1, 0, none⟩ (.map none)).setCell ⟨w.heap.size + 1, 1, none⟩ (.int .i64 0)).setCell ⟨w.heap.size + 1, 2, none⟩ (.slice none 0 0)).setCell ⟨w.heap.size + 1, 3, none⟩ (.slice none 0 0)).setCell ⟨w.heap.size + 1, 4, none⟩ (.slice none 0 0)).setCell ⟨w.heap.size + 1, 5, none⟩ (.int .i64 0)) = w3 at *; obtain ⟨z0, z1, z2, z3, z4, z5, -⟩ := blk6 HZ.o; exact bodyPost_ret (v := .tuple #[.agg #[.map none, .int .i64 0, .slice none 0 0, .slice none 0 0, .slice none 0 0, .int .i64 0], .bool false]) (by simp [results, Tryz.results77, go_sem, z0, z1, z2, z3, z4, z5]) rfl ⟨⟨_, by rw [HM.o], fun _ => rfl, fun h => by rw [HM.o] at h; cases h⟩, HX.o⟩
   ·have hd0 : decide (z < 0) = false := by simpa using h3
    have hd1 : decide ((np : Int) <= z) = true := by simp; omega
    clear hz h3; go_upto_region 3 with (fail)
    generalize w1.alloc (.cells #[.map (some Bm), .int .i64 T, .slice q1 np c1, .slice q2 M c2] 70) = w2 at *; have hl2 := lt_of_block R2.o; obtain ⟨r0, r1, r2, r3, r4, r5, rf⟩ := blk6 R2.o; have f0 := rf 0; have f1 := rf 1; have f2 := rf 2; have f3 := rf 3; have f4 := rf 4; have f5 := rf 5; have HZ := hid (jVx (a' := .map none) (b' := .int .i64 0) (c' := .slice none 0 0) (d' := .slice none 0 0) (e' := .slice none 0 0) (f' := .int .i64 0) R2.o); clear rf; go_wp2; have HX := hid (jWv E2.o (g := w.heap.size + 1) (by omega) (.map none) (.int .i64 0) (.slice none 0 0) (.slice none 0 0) (.slice none 0 0) (.int .i64 0)); generalize ((((((w2.setCell ⟨w.heap.size + 1, 0, none⟩ (.map none)).setCell ⟨w.heap.size + 1, 1, none⟩ (.int .i64 0)).setCell ⟨w.heap.size + 1, 2, none⟩ (.slice none 0 0)).setCell ⟨w.heap.size + 1, 3, none⟩ (.slice none 0 0)).setCell ⟨w.heap.size + 1, 4, none⟩ (.slice none 0 0)).setCell ⟨w.heap.size + 1, 5, none⟩ (.int .i64 0)) = w3 at *; obtain ⟨z0, z1, z2, z3, z4, z5, -⟩ := blk6 HZ.o; exact bodyPost_ret (v := .tuple #[.agg #[.map none, .int .i64 0, .slice none 0 0, .slice none 0 0, .slice none 0 0, .int .i64 0], .bool false]) (by simp [results, Tryz.results77, go_sem, z0, z1, z2, z3, z4, z5]) rfl ⟨⟨_, by rw [HM.o], fun _ => rfl, fun h => by rw [HM.o] at h; cases h⟩, HX.o⟩
end
section
open Go.RowKit Go.Maps
theorem jY0X (a : Option Addr) (c : Nat) (fv : Value) (w : World) : Calls Tryz.prog 78 #[.slice a 0 c, fv] w fun e w' => e = .returned (.slice a 0 c) /\ w' = w := by
 go_enter Tryz.func78, Tryz.ntmps78
 go_wp2_with (fail)
 refine Calls.mono (Tryz.slices_IndexFunc_empty (α := Int) a c fv _) ?_
 rintro e w1 ⟨rfl, rfl⟩
 go_wp2
 go_ret
 exact ⟨rfl, rfl⟩
theorem jY4p (B np d k n1 c1 M c2 nl cl nb cb : Nat) (mo : Option Nat) (T : Int) (q1 q2 p ql qb : Option Addr) (ds : List (Value × Value)) (w : World) (hk : k < np) (ho : w.ownsRow B 117 2 (.slice p np d) np (fl2 ds)) (hd : ds[k]? = some (.slice ql nl cl, .slice qb nb cb)) :
  Calls Tryz.prog 80 #[.agg #[.map mo, .int .i64 T, .slice q1 n1 c1, .slice q2 M c2, .slice p np d, .int .i64 (k : Int)]] w fun e w' => e = .returned (.agg #[.slice ql nl cl, .slice qb nb cb]) /\ Ext w w' := by
 obtain ⟨e0, e1⟩ := jY5A hd
 have ho2 := ho.2
 obtain ⟨g, rfl, hgl⟩ : ∃ g, p = some ⟨g, 0, none⟩ /\ g < w.heap.size := by
  rcases ho2 with ⟨e, hz⟩ | ⟨g, cap, cur, e, _, hg, _⟩
  ·omega
  ·cases e; exact ⟨g, rfl, lt_of_block hg⟩
 have hc : ∀ j u, (fl2 ds)[j]? = some u -> w.cell? ⟨g, j, none⟩ = some u := fun j u hu => by
  have h := World.ownsRow.cells ho (g := g) rfl j u hu; have hadd : (⟨g, 0, none⟩ : Addr).add j = ⟨g, j, none⟩ := by unfold Addr.add; split <;> simp_all
  rw [hadd] at h; exact h
 have kc0 := hc _ _ e0
 have kc1 := hc _ _ e1
 dsimp only at kc0 kc1
 have hkI : (k : Int) < (np : Int) := by omega
 obtain ⟨W0, hW0⟩ : ∃ W0, ((w.alloc (.cells #[.map mo, .int .i64 T, .slice q1 n1 c1, .slice q2 M c2, .slice (some ⟨g, 0, none⟩) np d, .int .i64 (k : Int)] 110)).alloc (.cells #[.slice none 0 0, .slice none 0 0] 117)) = W0 := ⟨_, rfl⟩
 have E0 : Ext w W0 := by rw [<- hW0]; exact ((Ext.refl w).alloc _).alloc _
 have B0 : W0.heap[w.heap.size]? = some (.cells #[.map mo, .int .i64 T, .slice q1 n1 c1, .slice q2 M c2, .slice (some ⟨g, 0, none⟩) np d, .int .i64 (k : Int)] 110 (0, 0)) := by rw [<- hW0]; exact ((Ext.refl _).alloc _).blk (blk_at rfl)
 have R0 : W0.heap[w.heap.size + 1]? = some (.cells #[.slice none 0 0, .slice none 0 0] 117 (0, 0)) := by rw [<- hW0]; exact blk_at (by simp)
 have k0 := E0.keep kc0
 have k1 := E0.keep kc1
 obtain ⟨y0, y1, y2, y3, y4, y5, -⟩ := blk6 B0
 obtain ⟨r0, r1, f0, f1⟩ := blk2 R0
 have HZ := hid (jZI (c := .slice ql nl cl) (d := .slice qb nb cb) R0)
 have HX := hid ((E0.setCell (p := ⟨w.heap.size + 1, 0, none⟩) (by show w.heap.size <= w.heap.size + 1; omega) (.slice ql nl cl)).setCell (p := ⟨w.heap.size + 1, 1, none⟩) (by show w.heap.size <= w.heap.size + 1; omega) (.slice qb nb cb))
 have hl0 := lt_of_block R0
 clear ho ho2 hc e0 e1 hd
 go_enter Tryz.func80, Tryz.ntmps80
 go_upto_region 1 with (fail)
 try rw [hW0]
 clear hW0 kc0 kc1
 go_wp2
 generalize ((W0.setCell ⟨w.heap.size + 1, 0, none⟩ (.slice ql nl cl)).setCell ⟨w.heap.size + 1, 1, none⟩ (.slice qb nb cb)) = w3 at *
 obtain ⟨z0, z1, -, -⟩ := blk2 HZ.o
 exact bodyPost_ret (v := .agg #[.slice ql nl cl, .slice qb nb cb]) (by simp [results, Tryz.results80, go_sem, z0, z1]) rfl ⟨rfl, HX.o⟩
theorem jWY (v : Value) (ars : List Arr) (ps : List Pt) (z : Int) (w : World) (hp : PrR w v ars ps) :
  Calls Tryz.prog 39 #[v, .int .i64 z] w fun e w' => (∃ v', e = .returned v' /\ jZ1 w.heap.size w' v' (plL ars ps z)) /\ Ext w w' := by
 have HP := hid hp
 obtain ⟨qa, ca, qp, cp, rfl, -, -, -, -⟩ := hp.parts
 obtain ⟨na, hna⟩ : ∃ n, ars.length = n := ⟨_, rfl⟩
 obtain ⟨np, hnp⟩ : ∃ n, ps.length = n := ⟨_, rfl⟩
 rw [hna, hnp] at HP ⊢
 have HNP := hid hnp
 clear hp hna hnp
 go_enter Tryz.func39, Tryz.ntmps39
 go_wp2_with (fail)
 refine (jY3U _ ars ps z _ (HP.o.ext ((Ext.refl w).alloc _))).mono ?_
 rintro e w1 ⟨⟨v1, rfl, h0, h1⟩, hE⟩
 have E1 := hid (((Ext.refl w).alloc _).trans hE)
 clear hE
 obtain ⟨sb, hsb⟩ : ∃ b, siteB ars ps z = b := ⟨_, rfl⟩
 rw [hsb] at h0 h1 ⊢
 have HSB := hid hsb
 clear hsb
 cases sb with
 | false =>
  have hv := h0 rfl; subst hv; clear h0 h1; have E2 := hid (E1.o.alloc (.cells #[.map none, .int .i64 0, .slice none 0 0, .slice none 0 0, .slice none 0 0, .int .i64 0] 110)); go_wp2; go_ret; exact ⟨⟨_, rfl, by rw [plL_no HSB.o]; exact World.ownsRow_nil _ _ _ _⟩, E2.o⟩
 | true =>
  obtain ⟨mo, T, q1, n1, c1, q2, M, c2, es, p, d, ds, Be, rfl, hM, hM120, hev, hdl, hes, ho, hds, hdr⟩ := h1 rfl; obtain ⟨-, k, x, rfl, hx, hlo, -⟩ := jY3K HSB.o; have hk4 := loops4 HSB.o; rw [hlo] at hk4; have hknp : k < np := by have := (List.getElem?_eq_some_iff.1 hx).1; rw [HNP.o] at this; exact this
  rw [HNP.o] at ho hds ⊢; obtain ⟨dd, hdd⟩ := jZ0 (xs := ds) (k := k) (by rw [hds]; exact hknp); obtain ⟨pt, ql, cl, qb, nb, cb, hpt, rfl⟩ := hdr k dd hdd; rw [hx] at hpt; cases hpt
  obtain ⟨nl, hnl⟩ : ∃ n, x.1.length = n := ⟨_, rfl⟩; rw [hnl] at hdd hk4 hlo; have HM := hid hM; have HEV := hid hev; have HDL := hid hdl; have HES := hid hes; have HO := hid ho; have HDD := hid hdd; have HLO := hid hlo; have hlen := jY3M (ars := ars) (ps := ps) (k : Int); have HCB : Hid (ascL (carL (distB ars ps (k : Int))) = carB ars ps (k : Int)) := hid (ascL_fl (carL_bd (dist_4 (k : Int)))); have hzz : siteB ars ps (k : Int) = true := HSB.o; clear h0 h1 hM hev hdl hes ho hds hdr hdd hx hlo hnl; go_wp2_with (fail); obtain ⟨w2, hw2⟩ : ∃ x, w1.alloc (.cells #[.map mo, .int .i64 T, .slice q1 n1 c1, .slice q2 M c2, .slice p np d, .int .i64 (k : Int)] 110) = x := ⟨_, rfl⟩; have E12 : Ext w1 w2 := by rw [<- hw2]; exact (Ext.refl w1).alloc _
  have B2 : Hid (w2.heap[w1.heap.size]? = some (.cells #[.map mo, .int .i64 T, .slice q1 n1 c1, .slice q2 M c2, .slice p np d, .int .i64 (k : Int)] 110 (0, 0))) := hid (by rw [<- hw2]; exact blk_at rfl); have E2 := hid (E1.o.trans E12); have HEV2 := hid (HEV.o.ext E12); have HO2 := hid (jZ3 HO.o E12)
  try rw [hw2]
  clear hw2 E12; refine (jWT Be es mo T q1 q2 n1 c1 M c2 (k : Int) w2 HM.o hM120 HEV2.o HES.o (distB ars ps (k : Int)) HDL.o (by omega)).mono ?_; rw [HCB.o]; rintro e w3 ⟨⟨v3, rfl, hv3⟩, hE3⟩; obtain ⟨qc, cc, rfl⟩ := jXz hv3; obtain ⟨m, hm⟩ : ∃ n, (carB ars ps (k : Int)).length = n := ⟨_, rfl⟩; rw [hm] at hv3 ⊢; have HMC := hid hm; obtain ⟨w4, hw4⟩ : ∃ x, w3.alloc (.cells #[.slice qc m cc] 39) = x := ⟨_, rfl⟩; have E34 : Ext w3 w4 := by rw [<- hw4]; exact (Ext.refl w3).alloc _
  have X24 := hid (hE3.trans E34); have HV4 := hid (jZ1.ext hv3 E34); have HVlt : Hid (∀ b, (Value.slice qc m cc).ownBlock = some b -> b < w3.heap.size) := hid (jZ1.block_lt hv3); have E4 := hid (E2.o.trans X24.o); have B4 := hid (X24.o.blk B2.o); have HO4 := hid (jZ3 HO2.o X24.o); have C4 : Hid (w4.heap[w3.heap.size]? = some (.cells #[.slice qc m cc] 39 (0, 0))) := hid (by rw [<- hw4]; exact blk_at rfl); obtain ⟨gb, hgb⟩ : ∃ g, w3.heap.size = g := ⟨_, rfl⟩; have HGB := hid hgb; rw [hgb] at C4 HVlt; clear hv3 hE3 hm E34; obtain ⟨y0, y1, y2, y3, y4, y5, -⟩ := blk6 B4.o; have hl1 := lt_of_block B4.o; go_wp2_with (fail)
  try rw [hw4]
  try rw [hgb]
  refine (jY4p _ np d k n1 c1 M c2 nl cl nb cb mo T q1 q2 p ql qb ds _ hknp HO4.o HDD.o).mono ?_; rintro e w5 ⟨rfl, hE5⟩; have E5 := hid (E4.o.trans hE5); have C5 := hid (hE5.blk C4.o); have HV5 := hid (jZ1.ext HV4.o hE5); clear hE5 hw4 hgb y0 y1 y2 y3 y4 y5 hl1; have hfd : ∀ w : World, (Instr.field 117 (.agg #[.slice ql nl cl, .slice qb nb cb]) 0).run Tryz.prog w = .ok (.slice ql nl cl) w := fun _ => by kernel_rfl
  go_wp2_with (fail); refine (jY5I nl (by omega) _).mono ?_; rintro e w6 ⟨⟨pu, cu, rfl, hu⟩, hE6⟩; have hs5 := hE6.size_le; have E6 := hid (E5.o.trans hE6); have C6 := hid (hE6.blk C5.o); have HV6 := hid (jZ1.ext HV5.o hE6); have HU := hid hu; have hgl := lt_of_block C5.o; have HPL := hid (jY6b hzz); rw [HLO.o] at HPL; clear hE6 hu; by_cases h0 : nl = 0
  ·subst h0
   go_wp2_with (fail); refine (jY0X pu cu _ _).mono ?_; rintro e w7 ⟨rfl, rfl⟩; go_wp2; go_ret; exact ⟨⟨_, rfl, by rw [HPL.o]; exact HU.o.weak E5.o.size_le⟩, E6.o⟩
  ·obtain ⟨o, rfl⟩ : ∃ o, pu = some ⟨o, 0, none⟩ := by
    rcases HU.o.2 with ⟨e, hz⟩ | ⟨g, cap, cur, e, _⟩
    ·rw [jY2p] at hz; exact absurd hz h0
    ·exact ⟨g, (Value.slice.inj e).1⟩
   have hou := (HU.o.lt o rfl).1; go_wp2_with (fail); refine (jY2V w5.heap.size _ o nl cu gb m cc qc (upL nl) (carB ars ps (k : Int)) _ (jY2p nl) (by omega) HU.o C6.o HMC.o HV6.o (by omega) (fun b hb e => by have := HVlt.o b hb; omega)).mono ?_; rintro e w7 ⟨⟨r, rfl, hr⟩, hlv⟩; have HR := hid (hr.weak E5.o.size_le); have E7 := hid (Lv.ext0 hlv E6.o (fun b hb e => by have := E5.o.size_le; omega)); clear hr hlv; go_wp2; go_ret; exact ⟨⟨_, rfl, by rw [HPL.o]; exact HR.o⟩, E7.o⟩
end
end Go.Proofs.YtklehkkclojccaaGreat
