/- The texts G18 V4 G10, joined. No statement is proved here. -/
import Derived.Test.YtklehkkclojccaaGreatQL14
import Derived.Test.YtklehkkclojccaaGreatQL30
import Derived.Test.YtklehkkclojccaaGreatQL20
import Derived.Test.YtklehkkclojccaaGreatQL12
import Derived.LoopIn
import Derived.Test.YtklehkkclojccaaGreatQL32
import Derived.Test.YtklehkkclojccaaGreatQL35
import Derived.Test.YtklehkkclojccaaGreatQL08
set_option maxRecDepth 100000
set_option maxHeartbeats 8000000
set_option linter.unusedVariables false
set_option linter.unusedSimpArgs false
namespace Go.Proofs.YtklehkkclojccaaGreat
open Go.Lib (hid)
section
open Go.RowKit
def PartP (B : Nat) (w : World) (u0 u1 : Value) (p : Pt) : Prop := PtsO B w u0 (nptsL p.1) /\ jZB B w u1 p.2
def jZs : Nat -> World -> Value -> List Pt -> Prop := jZ9 185 PartP
theorem PartP.grow {B : Nat} {w w' : World} {u0 u1 : Value} {x : Pt} {row : Option Nat} (h : PartP B w u0 u1 x) (hg : w.grownBy w' row) (ht : Tag w row 185) : PartP B w' u0 u1 x := ⟨h.1.tag hg ht (by decide) (by decide), h.2.tag hg ht (by decide) (by decide)⟩
theorem PartP.ext {B : Nat} {w w' : World} {u0 u1 : Value} {x : Pt} (h : PartP B w u0 u1 x) (hE : Ext w w') : PartP B w' u0 u1 x := ⟨h.1.ext hE, h.2.ext hE⟩
theorem PartP.weak {B B' : Nat} {w : World} {u0 u1 : Value} {x : Pt} (h : PartP B w u0 u1 x) (hB : B' <= B) : PartP B' w u0 u1 x := ⟨h.1.weak hB, h.2.weak hB⟩
theorem infoPrt : (Tryz.prog.info? 185).map (fun i => (i.zero, i.size, i.bytes)) = some (some (.agg #[.slice none 0 0, .slice none 0 0]), 2, 48) := by kernel_rfl
def partsS (ps : List Pt) : Bool := decide (ps.length <= 4) && ps.all partS
theorem jY2G (pv : Option Addr) (n c : Nat) (ps : List Pt) (w : World) (hn : ps.length = n) (hs : jZH w (.slice pv n c) ps) :
  Calls Tryz.prog 97 #[.slice pv n c] w fun e w' => (∃ q k d, e = .returned (.tuple #[.slice q k d, .bool (partsS ps)]) /\ (partsS ps = true -> jZs w.heap.size w' (.slice q k d) ps)) /\ Ext w w' := by
 have hm : n <= 9223372036854775807 := by obtain ⟨_, _, _, hm⟩ := hs.form; rw [<- hn]; exact hm
 have HS := hid hs; have HN := hid hn
 clear hs hn
 by_cases h4 : n <= 4
 ·have hq : decide ((4 : Int) < (n : Int)) = false := by simp; omega
  go_enter Tryz.func97, Tryz.ntmps97
  go_wp2
  go_loopw [4, 14] (fun lv iv wr => ∃ (k : Nat) (q : Option Addr) (d : Nat), k <= n /\ iv = .int .i64 k /\ lv = .slice q k d /\ (∀ x ∈ ps.take k, partS x = true) /\ jZs w.heap.size wr (.slice q k d) (ps.take k) /\ Ext w wr) (fun _ iv _ => n - (intOf iv).toNat)
  case atStart => exact ⟨0, none, 0, by omega, rfl, rfl, by simp, ⟨[], World.ownsRow_nil _ _ _ _, fun i x h => by simp at h⟩, Ext.refl w⟩
  case round =>
   obtain ⟨k, q, d, hk, rfl, rfl, hall, hPO, hE⟩ := hrel; have HAL := hid hall; have HPO := hid hPO; have HE := hid hE; clear hall hPO hE; by_cases hlt : k < n
   ·obtain ⟨x, hx⟩ := jZ0 (xs := ps) (k := k) (by rw [HN.o]; exact hlt)
    obtain ⟨b, off, q1, m1, q2, m2, rfl, c0, c1, hb, hls, hss⟩ := (HS.o.ext HE.o).elem hx; have HX := hid hx; have HLS := hid hls; have HSS := hid hss; obtain ⟨bv, hbv⟩ : ∃ bv, partS (x.1, x.2) = bv := ⟨_, rfl⟩; have HBV := hid hbv; clear hx hls hss hbv; go_wp2_with (fail); refine (jY3R q1 q2 x.1.length m1 x.2.length m2 x.1 x.2 _ rfl rfl (HLS.o.ext ((Ext.refl wr).alloc _)) (HSS.o.ext ((Ext.refl wr).alloc _))).mono ?_; rw [HBV.o]; rintro e w3 ⟨⟨r1, n1, e1, r2, n2, e2, rfl, hval⟩, hE3⟩; have X3 := hid (((Ext.refl wr).alloc _).trans hE3); have HVAL := hid hval; have hz3 := X3.o.size_le; have hzw := HE.o.size_le; clear hE3 hval c0 c1; cases bv with
    | false =>
     have HRF : Hid (partsS ps = false) := hid (by simp only [partsS]; rw [jZa (p := partS) HX.o HBV.o]; simp); go_wp2; exact bodyPost_ret (v := .tuple #[.slice none 0 0, .bool false]) (by simp [results, Tryz.results97, go_sem]) rfl ⟨⟨_, _, _, by rw [HRF.o], fun h => (by rw [HRF.o] at h; cases h)⟩, (HE.o.trans X3.o).alloc _⟩
    | true =>
     obtain ⟨i0, hi, hz0, hz1, hz2⟩ := info_parts infoPrt; obtain ⟨vs, ho, he⟩ := HPO.o; have HTL : Hid ((ps.take k).length = k) := hid (by rw [List.length_take, HN.o]; omega); rw [HTL.o] at ho; have HOW := hid (jZ3 (jZ3 ho X3.o) (((Ext.refl w3).alloc (.cells #[.slice r1 n1 e1, .slice r2 n2 e2] 185)).alloc (.cells #[.slice r1 n1 e1, .slice r2 n2 e2] 185))); have HEE := hid he; clear ho he; go_wp2_with (first | (at_builtin; refine wpList_append_own_at _ rfl (.tmp 25) (.tmp 27) 67 rfl w.heap.size 185 i0 (.agg #[.slice none 0 0, .slice none 0 0]) 2 48 Tryz.underlying67 hi hz0 hz1 hz2 rfl (by decide) (.slice q k d) k vs rfl HOW.o ⟨w3.heap.size + 1, 0, none⟩ 1 1 [.slice r1 n1 e1, .slice r2 n2 e2] rfl rfl (jXi (by simp)) (by intro u hu; simp at hu; rcases hu with rfl | rfl <;> rfl) (by unfold maxLen; omega) (by omega) (by simp; omega) ?_; intro v' w4 hown4 hgr4 hnil4 hat4; obtain ⟨gq, dq, rfl, hdq⟩ := jZd hown4 (fun e => by have := (hnil4.1 e).2; omega)) | fail); obtain ⟨Wc, hWc⟩ : ∃ Wc, ((w3.alloc (.cells #[.slice r1 n1 e1, .slice r2 n2 e2] 185)).alloc (.cells #[.slice r1 n1 e1, .slice r2 n2 e2] 185)) = Wc := ⟨_, rfl⟩; have EC3 : Ext w3 Wc := by rw [<- hWc]; exact ((Ext.refl w3).alloc _).alloc _
     have EC : Ext wr Wc := X3.o.trans EC3; have HOC := HOW.o; have hvl := HOC.1; rw [hWc] at hgr4 HOC; have htag := jZx HOC
     have hres : jZs w.heap.size w4 (.slice (some ⟨gq, 0, none⟩) (k + 1) dq) (ps.take (k + 1)) := by
      rw [jZ6 HX.o]; refine jZ9.push (R := PartP) (fun h a b => PartP.grow h a b) HTL.o (fun i y hi => ?_) hvl hown4 hgr4 htag (((show PartP _ w3 (.slice r1 n1 e1) (.slice r2 n2 e2) x from HVAL.o (by trivial)).weak (by simp; omega)).ext EC3); obtain ⟨t0, t1, e0, e1, e3⟩ := HEE.o i y hi; exact ⟨t0, t1, e0, e1, e3.ext EC⟩
     have HRS := hid hres; have E4 := hid ((HE.o.trans EC).grown hgr4 (fun r hr => by have := (HOC.lt r hr).1; omega)); have HA2 := hid (jZh HX.o HAL.o HBV.o); clear hres EC EC3 HOC htag hgr4 hown4 hnil4 hat4 hWc; go_wp2; go_roundw
     case rel => exact ⟨k + 1, _, _, by omega, by go_num, rfl, HA2.o, HRS.o, E4.o⟩
     case measure => simp [intOf]; omega
   ·obtain rfl : k = n := by omega
    have hal : ps.take k = ps := List.take_of_length_le (by rw [HN.o]; omega)
    have HRT : Hid (partsS ps = true) := hid (by
     have h := HAL.o; rw [hal] at h; simp only [partsS, Bool.and_eq_true, decide_eq_true_eq, List.all_eq_true]
     exact ⟨by rw [HN.o]; omega, h⟩)
    have HPF : Hid (jZs w.heap.size wr (.slice q k d) ps) := hid (by have h := HPO.o; rw [hal] at h; exact h); clear hal; go_wp2; exact bodyPost_ret (v := .tuple #[.slice q k d, .bool true]) (by simp [results, Tryz.results97, go_sem]) rfl ⟨⟨_, _, _, by rw [HRT.o], fun _ => HPF.o⟩, HE.o⟩
 ·have hq : decide ((4 : Int) < (n : Int)) = true := by simp; omega
  have HRF : Hid (partsS ps = false) := hid (by simp only [partsS]; rw [decide_eq_false (by rw [HN.o]; omega)]; rfl)
  go_enter Tryz.func97, Tryz.ntmps97
  go_wp2; exact bodyPost_ret (v := .tuple #[.slice none 0 0, .bool false]) (by simp [results, Tryz.results97, go_sem]) rfl ⟨⟨_, _, _, by rw [HRF.o], fun h => (by rw [HRF.o] at h; cases h)⟩, Ext.refl w⟩
end
section
open Go.RowKit
attribute [local go_sem] Oper.semAt_some
def visL (vs : List Value) (nb : Nat) : List (Value × Nat) := vs.flatMap (fun v => (List.range nb).map (fun k => (v, k)))
theorem jWA {k nb : Nat} (h : k < nb) : ∃ t, List.range nb = (List.range k ++ [k]) ++ t := by
 refine ⟨(List.range (nb - (k + 1))).map (fun x => k + 1 + x), ?_⟩
 rw [<- List.range_succ, <- List.range_add]
 congr 1
 omega
theorem jY4E {vs : List Value} {nb i : Nat} {v : Value} (h : vs[i]? = some v) : visL (vs.take (i + 1)) nb = visL (vs.take i) nb ++ (List.range nb).map (fun k => (v, k)) := by
 rw [jZ6 h]; simp [visL]
theorem jY3x {vs : List Value} {nb i k : Nat} {v : Value} (h : vs[i]? = some v) (hk : k < nb) : (visL (vs.take i) nb ++ (List.range k).map (fun k => (v, k)) ++ [(v, k)]) <+: visL vs nb := by
 obtain ⟨t, ht⟩ := jWA hk
 have e : vs = vs.take i ++ v :: vs.drop (i + 1) := by rw [<- jY5s h, List.take_append_drop]
 refine ⟨t.map (fun k => (v, k)) ++ visL (vs.drop (i + 1)) nb, ?_⟩
 conv => rhs; rw [e]
 simp only [visL, List.flatMap_append, List.flatMap_cons]
 rw [ht]
 simp
theorem jY2P (p q : Option Addr) (n c n' c' : Nat) (w : World) : Calls Tryz.prog 160 #[.agg #[.slice p n c, .slice q n' c']] w fun e w' =>
  e = .returned (.func (.func 221) #[] #[.pointer (some ⟨w.heap.size, 0, none⟩)]) /\ w' = w.alloc (.cells #[.slice p n c, .slice q n' c'] 185) := by
 go_enter Tryz.func160, Tryz.ntmps160
 go_wp2
 go_ret
 exact ⟨rfl, rfl⟩
theorem jY1L {Z : Nat -> Prop} {own own' : List Nat} {W W' : World} (h : ∀ b ∈ own, b < W.heap.size /\ ¬ Z b) (hg : Grew own own' W W') (hZ : ∀ b, Z b -> b < W.heap.size) : ∀ b ∈ own', b < W'.heap.size /\ ¬ Z b := fun b hb => by
 obtain ⟨h1, h2⟩ := hg.2 b hb
 rcases h1 with h1 | h1
 ·exact ⟨h2, (h b h1).2⟩
 ·exact ⟨h2, fun hz => by have := hZ b hz; omega⟩
theorem jY2K (base m m' PB B : Nat) (pv bv : Option Addr) (n c nb cb : Nat) (vs : List Value) (Z : Nat -> Prop) (w : World) (ho : w.ownsRow B 39 1 (.slice pv n c) n vs) (hvs : ∀ u ∈ vs, ∃ p k d, u = .slice p k d) (hnb : nb <= 1000)
  (hB : w.heap[PB]? = some (.cells #[.slice pv n c, .slice bv nb cb] 185 (0, 0))) (hZ : ∀ b, Z b -> b < w.heap.size) (hZP : Z PB) (hZR : ∀ b, (Value.slice pv n c).ownBlock = some b -> Z b) :
  SeqB base Fence.wide m m' Tryz.prog 221 #[.pointer (some ⟨PB, 0, none⟩)] (fun x : Value × Nat => #[x.1, .int .i64 (x.2 : Int)]) (fun _ _ => True) (fun _ => True) (fun _ => False) Z (visL vs nb) w := by
 intro l J Jx own W hvW hJ hJx hown hY h0
 have hBW := hvW.heap hB (fun h => h)
 have hoW := row_lv ho hvW (fun _ _ h => h)
 have hZW : ∀ b, Z b -> b < W.heap.size := fun b h => Nat.lt_of_lt_of_le (hZ b h) hvW.size
 have hvl : vs.length = n := by have := ho.1; omega
 have hn63 : n <= 9223372036854775807 := by
  rcases ho.2 with ⟨e, h0⟩ | ⟨g, cap, cur, e, _, _, h1, h2, _⟩
  ·omega
  ·unfold maxLen at h2; omega
 have HB := hid hBW; have HOW := hid hoW; have HVL := hid hvl; have HY := hid hY; have HOWN := hid hown; have HZW := hid hZW; have H0 := hid h0; have HJ := hid hJ; have HVS := hid hvs; have HZP := hid hZP; have HZR := hid hZR
 obtain ⟨b0, b1, -, -⟩ := blk2 hBW
 clear hvW hB ho hoW hBW hZ hZW hvl hY hown h0 hJ hJx hvs hZP hZR
 have hdd : ∀ k : Nat, (Fence.wide.depth.isSome = true -> 1 <= k) := fun k h => by cases h
 show CallsIn Fence.wide m Tryz.prog 221 #[.func (.yield l) #[] #[], .pointer (some ⟨PB, 0, none⟩)] W _
 refine callsIn_of_wp Tryz.func221 rfl trivial ?_ rfl
 simp only [Tryz.ntmps221, List.size_toArray, List.length_cons, List.length_nil, Nat.reduceAdd, Nat.reduceSub, Array.replicate_succ, Array.replicate_zero, List.push_toArray, List.append_toArray, List.nil_append, List.cons_append]
 gi_wp2_with (fail)
 gi_loopw [9] (fun iv wr => ∃ (i : Nat) (own1 : List Nat), i <= n /\ iv = .int .i64 i /\ J (visL (vs.take i) nb) own1 wr /\ Grew own own1 W wr) (fun iv _ => n - (intOf iv).toNat)
 case atStart => exact ⟨0, own, by omega, rfl, by simpa [visL] using H0.o, Grew.refl own W (fun b hb => (HOWN.o b hb).1)⟩
 case round =>
  obtain ⟨i, own1, hi, rfl, hj, hg⟩ := hrel; have HJ1 := hid hj; have HG1 := hid hg; have HB1 := hid (hg.1.heap HB.o (fun h => (HOWN.o _ h).2 HZP.o)); have hor := row_lv HOW.o hg.1 (fun b hb h => (HOWN.o b h).2 (HZR.o b hb)); have HOR := hid hor; obtain ⟨y0, y1, -, -⟩ := blk2 HB1.o; clear hj hg; by_cases hlt : i < n
  ·obtain ⟨u, hu⟩ := jZ0 (xs := vs) (k := i) (by rw [HVL.o]; exact hlt)
   obtain ⟨p, k0, d, rfl⟩ := HVS.o u (List.mem_of_getElem? hu)
   obtain ⟨g, rfl, cu⟩ : ∃ g, pv = some ⟨g, 0, none⟩ /\ wr.cell? ⟨g, i, none⟩ = some (.slice p k0 d) := by
    rcases hor.2 with ⟨e, hz⟩ | ⟨g, cap, cur, e, _⟩
    ·omega
    ·cases e
     have hc := World.ownsRow.cells hor (g := g) rfl i _ hu; have hadd : (⟨g, 0, none⟩ : Addr).add i = ⟨g, i, none⟩ := by unfold Addr.add; split <;> simp_all
     rw [hadd] at hc; exact ⟨g, rfl, hc⟩
   have HU := hid hu; clear hor hu; gi_wp2_with (fail)
   gi_loopw [16] (fun kv wr2 => ∃ (k : Nat) (own2 : List Nat), k <= nb /\ kv = .int .i64 k /\ J (visL (vs.take i) nb ++ (List.range k).map (fun k => (.slice p k0 d, k))) own2 wr2 /\ Grew own own2 W wr2) (fun kv _ => nb - (intOf kv).toNat)
   case atStart => exact ⟨0, own1, by omega, rfl, by simpa using HJ1.o, HG1.o⟩
   case round =>
    obtain ⟨k, own2, hk, rfl, hj, hg⟩ := hrel; by_cases hlt2 : k < nb
    ·obtain ⟨fn, tmps, assign, body, hy, hR⟩ := HY.o _ (.slice p k0 d, k) own2 _ hj (jY3x HU.o hlt2) trivial (jY1L HOWN.o hg HZW.o)
     have HG2 := hid hg; clear hj hg; gi_wp2_with (fail); refine ⟨hdd _, ?_⟩; refine (jZm hR).mono ?_; clear hR; rintro e V2 ⟨own3, hg3, (⟨rfl, hj3⟩ | ⟨rfl, hj3⟩)⟩
     ·have HJ3 := hid hj3; have HG3 := hid (HG2.o.trans hg3)
      clear hg3 hj3 hy; gi_wp2; go_roundw
      case rel => exact ⟨k + 1, own3, by omega, by go_num, by rw [List.range_succ, List.map_append, <- List.append_assoc]; exact HJ3.o, HG3.o⟩
      case measure => simp [intOf]; omega
     ·have HJ3 := hid hj3; have HG3 := hid (HG2.o.trans hg3)
      clear hg3 hj3 hy; gi_wp2
      first
       | refine bodyPost_ret (results_none rfl _ _ _) rfl ?_
       | refine ⟨_, results_none rfl _ _ _, ?_⟩
      exact ⟨⟨_, rfl⟩, own3, HG3.o.2, HG3.o.1.mono (fun _ _ h => .inl h), trivial, .inr ⟨_, jY3x HU.o hlt2, HJ3.o⟩⟩
    ·obtain rfl : k = nb := by omega
     have HJ2 := hid hj; have HG2 := hid hg; clear hj hg; gi_wp2; go_roundw
     case rel => exact ⟨i + 1, own2, by omega, by go_num, by rw [jY4E HU.o]; exact HJ2.o, HG2.o⟩
     case measure => simp [intOf]; omega
  ·obtain rfl : i = n := by omega
   clear hor; have HJF : Hid (J (visL vs nb) own1 wr) := hid (by have h := HJ1.o; rw [List.take_of_length_le (by rw [HVL.o]; omega)] at h; exact h); gi_wp2_with (fail); exact bodyPost_end (results_none rfl _ _ _) rfl ⟨⟨_, rfl⟩, own1, HG1.o.2, HG1.o.1.mono (fun _ _ h => .inl h), trivial, .inl HJF.o⟩
end
section
open Go.RowKit
theorem jZ1.lvB {B : Nat} {D : Nat -> Prop} {w w' : World} {v : Value} {xs : List Int} (h : jZ1 B w v xs) (hv : Lv D w w') (hD : ∀ b, D b -> b < B) : jZ1 B w' v xs := row_lv h hv (fun b hb hd => by have h1 := (World.ownsRow.lt h b hb).1; have h2 := hD b hd; omega)
theorem jZ8.lvB {B : Nat} {D : Nat -> Prop} {w w' : World} {v : Value} {xs : List Aff} (h : jZ8 B w v xs) (hv : Lv D w w') (hD : ∀ b, D b -> b < B) : jZ8 B w' v xs := jZ9.map' h (fun vs h => row_lv h hv (fun b hb hd => by have h1 := (World.ownsRow.lt h b hb).1; have h2 := hD b hd; omega)) (fun h => ⟨jZ1.lvB h.1 hv hD, h.2⟩)
theorem AccsO.lvB {B : Nat} {D : Nat -> Prop} {w w' : World} {v : Value} {xs : List Acc} (h : AccsO B w v xs) (hv : Lv D w w') (hD : ∀ b, D b -> b < B) : AccsO B w' v xs := jZ9.map' h (fun vs h => row_lv h hv (fun b hb hd => by have h1 := (World.ownsRow.lt h b hb).1; have h2 := hD b hd; omega)) (fun h => ⟨h.1, h.2.1, jZ8.lvB h.2.2 hv hD⟩)
def AccR (w : World) (u0 u1 : Value) (a : Acc) : Prop := u0 = .string a.1 /\ a.1.size <= 9223372036854775807 /\ AffsAt w u1 a.2
def AccsAt : World -> Value -> List Acc -> Prop := jZN AccR
theorem AccsO.at {B : Nat} {w : World} {v : Value} {xs : List Acc} (h : AccsO B w v xs) : AccsAt w v xs := jZ9.at' (fun h => ⟨h.1, h.2.1, h.2.2.at⟩) h
theorem AccsAt.elem {w : World} {p : Option Addr} {n c : Nat} {xs : List Acc} (h : AccsAt w (.slice p n c) xs) {i : Nat} {x : Acc} (hi : xs[i]? = some x) :
  ∃ b off q m, p = some ⟨b, off, none⟩ /\ w.cell? ⟨b, off + i * 2, none⟩ = some (.string x.1) /\ w.cell? ⟨b, off + i * 2 + 1, none⟩ = some (.slice q x.2.length m) /\ b < w.heap.size /\ x.1.size <= 9223372036854775807 /\ AffsAt w (.slice q x.2.length m) x.2 := by
 obtain ⟨p', c', hv, hm, hc⟩ := h
 cases hv
 obtain ⟨b, off, u0, u1, hp, h0, h1, hlt, rfl, hs, hr⟩ := hc i x hi
 obtain ⟨q, m, rfl, _⟩ := hr.form
 exact ⟨b, off, q, m, hp, h0, h1, hlt, hs, hr⟩
theorem jY0U {d : Int} : ∀ (L : Nat) (e : Ex), shapeB L e d = true -> ∀ a ∈ readsE L e, accB a.1 a.2 d = true
 | 0, e, h => by simp [shapeB] at h
 | L + 1, e, h => by
  intro a ha; have hk := jZP h; simp only [readsE, List.mem_append, List.mem_flatMap] at ha; rcases ha with ha | ⟨x, hx, ha⟩
  ·split at ha
   ·rename_i h3
    simp only [List.mem_singleton] at ha; subst ha; obtain ⟨kind, num, ix, arr, subs, kids⟩ := e; simp only [Ex.kind, Ex.arr, Ex.subs] at *; subst h3; rw [jXG] at h; simp only [Bool.and_eq_true] at h; have h2 := h.2.1; have h3 : ownF 3 num ix arr subs d = (decide (num = 0) && (noneB ix && accB arr subs d)) := rfl; rw [h3] at h2; simp only [Bool.and_eq_true] at h2; exact h2.2.2
   ·simp at ha
  ·exact jY0U L x (hk x hx) a ha
theorem jY04 {a : ByteArray} {su : List Aff} {e : Ex} {d : Int} (h : validB a su e d = true) : accB a su d = true /\ shapeB 5 e d = true /\ countE 5 e <= 12 := by
 simp only [validB, Bool.and_eq_true, decide_eq_true_eq] at h
 exact ⟨h.2.2.1, h.2.2.2.1, h.2.2.2.2⟩
theorem jY06 (p : Option Addr) (n c : Nat) (ars : List Arr) (v pv : Value) (s : St) (pt : List Int) (d : Int) (w : World) (hn : ars.length = n) (ha : ArrsAt w (.slice p n c) ars) (hok : ∀ a ∈ ars, arrOkB a = true) (h4 : n <= 4)
  (hs : StR w v s.1 s.2.1 s.2.2) (hv : validB s.1 s.2.1 s.2.2 d = true) (hp : IntsAt w pv pt) (hpw : ptW pt) :
  Calls Tryz.prog 151 #[.slice p n c, v, pv] w fun e w' => (∃ v' cw, e = .returned (.tuple #[v', .int .i64 cw, .bool (jZT ars s pt)]) /\ (jZT ars s pt = true -> cw = jXn ars s pt /\ jZ1 w.heap.size w' v' (jZO ars s pt)) /\ (jZT ars s pt = false -> cw = 0 /\ jZ1 w.heap.size w' v' [])) /\ Ext w w' := by
 obtain ⟨wa, wsub, e⟩ := s
 simp only at *
 obtain ⟨hacc, hsh, hct⟩ := jY04 hv
 obtain ⟨q1, d1, q2, d2, q3, d3, q4, d4, rfl, hwa, hs1, he⟩ := hs.parts
 obtain ⟨pp, cp, rfl, hpm, -⟩ := id hp
 obtain ⟨-, hwv, hwb, hwl⟩ := jXX hacc
 have hwl2 : wsub.length <= 2 := by simp only [accB, Bool.and_eq_true, decide_eq_true_eq] at hacc; exact hacc.2.2.2
 obtain ⟨i0, hi, hz0, hz1, hz2⟩ := info_parts jZK
 obtain ⟨rds, hrds⟩ : ∃ r, readsE 5 e = r := ⟨_, rfl⟩
 have hrl : rds.length <= 12 := by have := jWw 5 e; rw [hrds] at this; omega
 have hro : ∀ a ∈ rds, accB a.1 a.2 d = true := by rw [<- hrds]; exact jY0U 5 e hsh
 have hcb := fun (ar : ByteArray) (su : List Aff) => jY3z ar su pt (base := 0) hok
 have HA := hid ha; have HN := hid hn; have HS := hid hs1; have HEX := hid he; have HP := hid hp; have HOK := hid hok; have HPW := hid hpw; have HRD := hid hrds; have HRO := hid hro; have HSH := hid hsh; have HCT := hid hct; have HWV := hid hwv; have HWB := hid hwb; have HCB := hid hcb
 clear ha hn hs hs1 he hp hok hpw hrds hro hsh hct hwv hwb hcb hv hacc
 go_enter Tryz.func151, Tryz.ntmps151
 go_wp2_with (fail)
 obtain ⟨wB, hwB⟩ : ∃ wB, (w.alloc (.cells #[.string wa, .slice q1 wsub.length d1, .int .i64 e.kind, .int .i64 e.num, .slice q2 e.ix.1.length d2, .int .i64 e.ix.2, .string e.arr, .slice q3 e.subs.length d3, .slice q4 e.kids.length d4] 181)).alloc (.cells #[] 3) = wB := ⟨_, rfl⟩
 have hzB : wB.heap.size = w.heap.size + 2 := by rw [<- hwB]; simp
 obtain ⟨W0, hW0⟩ : ∃ W0, wB.alloc (.cells #[] 174) = W0 := ⟨_, rfl⟩
 have hz0' : W0.heap.size = w.heap.size + 3 := by rw [<- hW0]; simp [hzB]
 have BX0 := hid (show W0.heap[w.heap.size]? = some (.cells #[.string wa, .slice q1 wsub.length d1, .int .i64 e.kind, .int .i64 e.num, .slice q2 e.ix.1.length d2, .int .i64 e.ix.2, .string e.arr, .slice q3 e.subs.length d3, .slice q4 e.kids.length d4] 181 (0, 0)) by rw [<- hW0, <- hwB]; exact jZ4 (jZ4 (blk_at rfl)))
 have BG0 := hid (show W0.heap[w.heap.size + 1]? = some (.cells #[] 3 (0, 0)) by rw [<- hW0, <- hwB]; exact jZ4 (blk_at (by simp)))
 have E0 : Hid (Ext w W0) := hid (by rw [<- hW0, <- hwB]; exact (((Ext.refl w).alloc _).alloc _).alloc _)
 have HR0 : Hid (AccsO (w.heap.size + 2) W0 (.slice (some ⟨w.heap.size + 1 + 1, 0, none⟩) 0 0) []) := hid ⟨[], by
  have h := World.ownsRow_made (base := w.heap.size + 2) (size := 2) (e := 174) wB #[] 0 (by omega) (Nat.zero_le _) rfl; rw [hzB, hW0] at h
  exact h, fun i x h => by simp at h⟩
 rw [hwB, hW0]
 clear hwB hW0
 refine (jVM d (w.heap.size + 2) 5 e _ w W0 _ [] HSH.o HEX.o E0.o (by omega) (by omega) HR0.o (by have := HCT.o; simp; omega)).mono ?_
 rintro r W1 ⟨⟨rv, rfl, hrv⟩, hE1, hK1, hz1'⟩
 rw [List.nil_append, HRD.o] at hrv
 obtain ⟨pr, cr, rfl⟩ := jZ9.slice hrv
 obtain ⟨m, hm⟩ : ∃ m, rds.length = m := ⟨_, rfl⟩
 rw [hm] at hrv hrl ⊢
 have HRV := hid hrv; have E1 := hid hE1; have HM := hid hm
 have BX1 := hid (hK1 _ _ _ _ (by decide) BX0.o); have BG1 := hid (hK1 _ _ _ _ (by decide) BG0.o)
 clear hrv hE1 hm hK1 HR0 BX0 BG0 HEX HSH HCT
 have HRC : Hid (jZO ars (wa, wsub, e) pt = rds.map (fun a => cellI a.1 a.2 pt 0 ars)) := hid (by simp only [jZO]; rw [HRD.o])
 have HCK : Hid (jZT ars (wa, wsub, e) pt = ((rds.map (fun a => cellI a.1 a.2 pt 0 ars)).all (fun c => decide (0 <= c)) && decide (0 <= cellI wa wsub pt 0 ars))) := hid (by unfold jZT; rw [HRC.o]; rfl)
 go_wp2
 go_loopw [9, 11] (fun ov i wr => ∃ (k : Nat) (po : Option Addr) (co : Nat), k <= m /\ i = .int .i64 k /\ ov = .slice po k co /\ wr.ownsRow w.heap.size 3 1 (.slice po k co) k (((rds.map (fun a => cellI a.1 a.2 pt 0 ars)).take k).map (Value.int .i64)) /\ (∀ b, (Value.slice po k co).ownBlock = some b -> b = w.heap.size + 1 \/ W1.heap.size <= b) /\ Lv (fun b => b = w.heap.size + 1) W1 wr /\ ((rds.map (fun a => cellI a.1 a.2 pt 0 ars)).take k).all (fun c => decide (0 <= c)) = true) (fun _ i _ => m - (intOf i).toNat)
 case atStart => exact ⟨0, _, _, by omega, rfl, rfl, ⟨rfl, .inr ⟨w.heap.size + 1, 0, #[], rfl, by omega, BG1.o, Nat.le_refl _, by unfold maxLen; omega, rfl, rfl⟩⟩, fun b h => .inl (by simpa [Value.ownBlock] using h.symm), Lv.refl _ _, by simp⟩
 case round =>
  obtain ⟨k, po, co, hk, rfl, rfl, hrow, hob, hlv, hall⟩ := hrel; have hEr : Ext w wr := hlv.ext0 E1.o (fun b hb h => by omega); have hrv := AccsO.lvB HRV.o hlv (fun b h => by omega); have HER := hid hEr; have HRW := hid hrow; have HOB := hid hob; have HLV := hid hlv; have HALL := hid hall; have BXR := hid (hlv.heap BX1.o (fun h => by omega)); have hzr := hlv.size; by_cases hlt : k < m
  ·obtain ⟨x, hx⟩ := jZ0 (xs := rds) (k := k) (by rw [HM.o]; exact hlt)
   obtain ⟨b, off, q, mm, rfl, c0, c1, hb, hsz, hr⟩ := hrv.at.elem hx; have hxa := HRO.o x (List.mem_of_getElem? hx); obtain ⟨-, hxv, hxb, hxl⟩ := jXX hxa; have hxl2 : x.2.length <= 2 := by simp only [accB, Bool.and_eq_true, decide_eq_true_eq] at hxa; exact hxa.2.2.2
   have hcx := HCB.o x.1 x.2; have HXN : Hid ((rds.map (fun a => cellI a.1 a.2 pt 0 ars))[k]? = some (cellI x.1 x.2 pt 0 ars)) := hid (by rw [List.getElem?_map, hx]; rfl); have htot := jWp HOK.o; rw [HN.o] at htot; obtain ⟨C, hC⟩ : ∃ C, cellI x.1 x.2 pt 0 ars = C := ⟨_, rfl⟩; rw [hC] at hcx HXN; have HC := hid hC; have HR := hid hr; have HXV := hid hxv; have HXB := hid hxb; clear hx hr hxa hxv hxb hC hEr hrv hrow hob hlv hall; go_wp2_with (fail); refine (jY0E p n c ars x.1 _ _ x.2 pt wr HN.o (HA.o.ext HER.o) HOK.o h4 HXB.o HR.o HXV.o ⟨hxl, hxl2⟩ (HP.o.ext HER.o) HPW.o).mono ?_; rw [HC.o]; rintro r w4 ⟨rfl, hE4⟩; have HE4 := hid hE4; have hz4 := hE4.size_le; clear hE4 c0 c1; by_cases hc0 : C < 0
   ·have hb0 : decide (C < 0) = true := by simpa using hc0
    have HRF : Hid (jZT ars (wa, wsub, e) pt = false) := hid (by
     rw [HCK.o, jZa (p := fun c => decide (0 <= c)) HXN.o (by simpa using hc0)]; rfl)
    have HMD : Hid (jZ1 w.heap.size (w4.alloc (.cells #[] 3)) (.slice (some ⟨w4.heap.size, 0, none⟩) 0 0) []) := hid (World.ownsRow_made w4 #[] 0 (by omega) (Nat.zero_le _) rfl); have HEE := hid ((HER.o.trans HE4.o).alloc (.cells #[] 3)); go_wp2; exact bodyPost_ret (v := .tuple #[.slice (some ⟨w4.heap.size, 0, none⟩) 0 0, .int .i64 0, .bool false]) (by simp [results, Tryz.results151, go_sem]) rfl ⟨⟨_, _, by rw [HRF.o], (fun h => by rw [HRF.o] at h; cases h), fun _ => ⟨rfl, HMD.o⟩⟩, HEE.o⟩
   ·have hb0 : decide (C < 0) = false := by simpa using hc0
    have hC0 : 0 <= C := by omega
    have hC1 : C < 1000 := by omega
    have ho : (w4.alloc (.cells #[.int .i64 C] 3)).ownsRow w.heap.size 3 1 (.slice po k co) k (((rds.map (fun a => cellI a.1 a.2 pt 0 ars)).take k).map (Value.int .i64)) := jZ3 HRW.o (HE4.o.alloc _); have HO := hid ho; go_wp2_with (at_builtin; refine wpList_append_own_at _ rfl (.tmp 35) (.tmp 37) 39 rfl w.heap.size 3 i0 (.int .i64 0) 1 8 jZG hi hz0 hz1 hz2 rfl (by decide) (.slice po k co) k _ rfl HO.o ⟨w4.heap.size, 0, none⟩ 1 1 [.int .i64 C] rfl rfl ?c1 ?c2 ?c3 ?c4 ?c5 ?_)
    case c1 => exact jZz rfl
    case c2 => intro u hu; simp at hu; subst hu; rfl
    case c3 => unfold maxLen; omega
    case c4 => omega
    case c5 => simp; omega
    intro v' w5 hown' hgrow _ hat
    obtain ⟨po', co', rfl⟩ : ∃ po' co', v' = .slice po' (k + 1) co' := by
     rcases hown'.2 with ⟨rfl, hn0⟩ | ⟨g, cap, cur, e, _⟩
     ·exact absurd hn0 (by omega)
     ·exact ⟨_, cap, e⟩
    have HRW' : Hid (w5.ownsRow w.heap.size 3 1 (.slice po' (k + 1) co') (k + 1) (((rds.map (fun a => cellI a.1 a.2 pt 0 ars)).take (k + 1)).map (Value.int .i64))) := hid (by rw [jZ6 HXN.o, List.map_append]; simpa using hown')
    have HOB' : Hid (∀ b, (Value.slice po' (k + 1) co').ownBlock = some b -> b = w.heap.size + 1 \/ W1.heap.size <= b) := hid (fun b hb => by
     rcases hat with h | h
     ·exact HOB.o b (h ▸ hb)
     ·rw [hb] at h; simp only [Option.some.injEq] at h; right; omega)
    have HLV' : Hid (Lv (fun b => b = w.heap.size + 1) W1 w5) := hid ((HLV.o.trans (Ext.lv (D := fun _ => False) (HE4.o.alloc (.cells #[.int .i64 C] 3))) (E := fun b => b = w.heap.size + 1) (fun _ _ h => h) (fun _ _ h => h.elim)).trans (Lv.grown (D := fun b => b = w.heap.size + 1 \/ W1.heap.size <= b) hgrow (fun r hr _ => HOB.o r hr)) (fun _ _ h => h) (fun b hb h => by
     rcases h with h | h
     ·exact h
     ·omega))
    have HALL' : Hid (((rds.map (fun a => cellI a.1 a.2 pt 0 ars)).take (k + 1)).all (fun c => decide (0 <= c)) = true) := hid (jZw HXN.o HALL.o (by simpa using hC0)); clear hown' hgrow hat ho; go_wp2; go_roundw
    case rel => exact ⟨k + 1, _, _, by omega, by go_num, rfl, HRW'.o, HOB'.o, HLV'.o, HALL'.o⟩
    case measure => simp [intOf]; omega
  ·obtain rfl : k = m := by omega
   have hcx := HCB.o wa wsub; have htot := jWp HOK.o; rw [HN.o] at htot; obtain ⟨C, hC⟩ : ∃ C, cellI wa wsub pt 0 ars = C := ⟨_, rfl⟩; rw [hC] at hcx; have HC := hid hC; have hmt : (rds.map (fun a => cellI a.1 a.2 pt 0 ars)).take k = rds.map (fun a => cellI a.1 a.2 pt 0 ars) := List.take_of_length_le (by rw [List.length_map, HM.o]; omega)
   have HIO : Hid (jZ1 w.heap.size wr (.slice po k co) (jZO ars (wa, wsub, e) pt)) := hid (by
    have h := HRW.o; rw [hmt] at h; rw [HRC.o]
    exact jZ1.mk h (by rw [List.length_map, HM.o]))
   have HAL : Hid ((rds.map (fun a => cellI a.1 a.2 pt 0 ars)).all (fun c => decide (0 <= c)) = true) := hid (by have h := HALL.o; rw [hmt] at h; exact h); obtain ⟨y0, y1, -, -, -, -, -, -, -⟩ := blk9 BXR.o; clear hC hEr hrv hrow hob hlv hall hmt; go_wp2_with (fail); refine (jY0E p n c ars wa _ _ wsub pt wr HN.o (HA.o.ext HER.o) HOK.o h4 HWB.o (HS.o.ext HER.o) HWV.o ⟨hwl, hwl2⟩ (HP.o.ext HER.o) HPW.o).mono ?_; rw [HC.o]; rintro r w4 ⟨rfl, hE4⟩; have HE4 := hid hE4; have hz4 := hE4.size_le; clear hE4 y0 y1; by_cases hc0 : C < 0
   ·have hb0 : decide (C < 0) = true := by simpa using hc0
    have HRF : Hid (jZT ars (wa, wsub, e) pt = false) := hid (by
     rw [HCK.o, HC.o, decide_eq_false (show ¬ 0 <= C by omega)]; simp)
    have HMD : Hid (jZ1 w.heap.size (w4.alloc (.cells #[] 3)) (.slice (some ⟨w4.heap.size, 0, none⟩) 0 0) []) := hid (World.ownsRow_made w4 #[] 0 (by omega) (Nat.zero_le _) rfl); have HEE := hid ((HER.o.trans HE4.o).alloc (.cells #[] 3)); go_wp2; exact bodyPost_ret (v := .tuple #[.slice (some ⟨w4.heap.size, 0, none⟩) 0 0, .int .i64 0, .bool false]) (by simp [results, Tryz.results151, go_sem]) rfl ⟨⟨_, _, by rw [HRF.o], (fun h => by rw [HRF.o] at h; cases h), fun _ => ⟨rfl, HMD.o⟩⟩, HEE.o⟩
   ·have hb0 : decide (C < 0) = false := by simpa using hc0
    have HRT : Hid (jZT ars (wa, wsub, e) pt = true) := hid (by
     rw [HCK.o, HC.o, HAL.o, decide_eq_true (show 0 <= C by omega)]; rfl)
    have HEE := hid (HER.o.trans HE4.o); have HIE := hid (HIO.o.ext HE4.o); go_wp2; exact bodyPost_ret (v := .tuple #[.slice po k co, .int .i64 C, .bool true]) (by simp [results, Tryz.results151, go_sem]) rfl ⟨⟨_, _, by rw [HRT.o], fun _ => ⟨HC.o.symm, HIE.o⟩, (fun h => by rw [HRT.o] at h; cases h)⟩, HEE.o⟩
end
end Go.Proofs.YtklehkkclojccaaGreat
