/- The texts G34 G35 G36, joined. No statement is proved here. -/
import Derived.Test.YtklehkkclojccaaGreatQL37
import Derived.Test.YtklehkkclojccaaGreatQL49
import Derived.Test.YtklehkkclojccaaGreatQL42
import Derived.Sort.OwnSortedInts
import Derived.Lib.SlicesCompact
import Derived.Lib.RowBridge
set_option maxRecDepth 100000
set_option maxHeartbeats 8000000
set_option linter.unusedVariables false
set_option linter.unusedSimpArgs false
namespace Go.Proofs.YtklehkkclojccaaGreat
open Go.Lib (hid)
section
open Go.RowKit Go.Maps
def fl (n : Nat) (s : List Int) : List Int := ((List.range n).filter (fun (j : Nat) => decide ((j : Int) ∈ s))).map (fun (j : Nat) => (j : Int))
theorem fl_yes {k : Nat} {s : List Int} (h : (k : Int) ∈ s) : fl (k + 1) s = fl k s ++ [(k : Int)] := by simp [fl, List.range_succ, List.filter_append, h]
theorem fl_no {k : Nat} {s : List Int} (h : (k : Int) ∉ s) : fl (k + 1) s = fl k s := by simp [fl, List.range_succ, List.filter_append, h]
theorem fl_len (k : Nat) (s : List Int) : (fl k s).length <= k := by
 unfold fl
 rw [List.length_map]
 exact Nat.le_trans (List.length_filter_le _ _) (by simp)
theorem jY0Z (L N : Nat) (s : List Int) (w : World) (hF : FlgAt w L (flg N s)) (hN : N <= 1048576) :
  Calls Tryz.prog 72 #[.slice (some ⟨L, 0, none⟩) N N] w fun e w' => (∃ v, e = .returned v /\ jZ1 w.heap.size w' v (fl N s)) /\ Ext w w' := by
 obtain ⟨i0, hi, hz0, hz1, hz2⟩ := info_parts jZK
 have HF := hid hF; clear hF
 go_enter Tryz.func72, Tryz.ntmps72
 go_wp2
 obtain ⟨W0, hW0⟩ : ∃ W0, w.alloc (.cells #[] 3) = W0 := ⟨_, rfl⟩
 have E0 : Hid (Ext w W0) := hid (by rw [<- hW0]; exact (Ext.refl w).alloc _)
 have O0 : Hid (W0.ownsRow w.heap.size 3 1 (.slice (some ⟨w.heap.size, 0, none⟩) 0 0) 0 []) := hid (by rw [<- hW0]; exact World.ownsRow_made w #[] 0 (Nat.le_refl _) (Nat.zero_le _) rfl)
 try rw [hW0]
 clear hW0
 go_loopw [3, 4] (fun ov iv wr => ∃ (k m : Nat) (po : Option Addr) (co : Nat), k <= N /\ iv = .int .i64 k /\ ov = .slice po m co /\ (fl k s).length = m /\ wr.ownsRow w.heap.size 3 1 (.slice po m co) m ((fl k s).map (Value.int .i64)) /\ Ext w wr) (fun _ iv _ => N - (intOf iv).toNat)
 case atStart => exact ⟨0, 0, _, _, by omega, rfl, rfl, rfl, O0.o, E0.o⟩
 case round =>
  obtain ⟨k, m, po, co, hk, rfl, rfl, hm, ho, hE⟩ := hrel; have HM := hid hm; have HO := hid ho; have HE := hid hE; have hmk : m <= k := by rw [<- hm]; exact fl_len k s
  clear hm ho hE; by_cases hlt : k < N
  ·have hfl := (show FlgAt wr L (flg N s) from HE.o.blk HF.o).cell (jY1o s hlt)
   obtain ⟨sb, hsb⟩ : ∃ sb, decide ((k : Int) ∈ s) = sb := ⟨_, rfl⟩; rw [hsb] at hfl; have HSB := hid hsb; clear hsb; cases sb with
   | false =>
    have HN1 := hid (fl_no (of_decide_eq_false HSB.o)); go_wp2; go_roundw
    case rel => exact ⟨k + 1, m, po, co, by omega, by go_num, rfl, by rw [HN1.o]; exact HM.o, by rw [HN1.o]; exact HO.o, HE.o⟩
    case measure => simp [intOf]; omega
   | true =>
    have HN1 := hid (fl_yes (of_decide_eq_true HSB.o)); have HOX := hid (jZ3 HO.o ((Ext.refl wr).alloc (.cells #[.int .i64 (k : Int)] 3))); have hsz : w.heap.size <= wr.heap.size := HE.o.size_le; go_wp2_with (at_builtin; refine wpList_append_own_at _ rfl (.tmp 16) (.tmp 18) 39 rfl w.heap.size 3 i0 (.int .i64 0) 1 8 jZG hi hz0 hz1 hz2 rfl (by decide) (.slice po m co) m _ rfl HOX.o ⟨wr.heap.size, 0, none⟩ 1 1 [.int .i64 (k : Int)] rfl rfl ?c1 ?c2 ?c3 ?c4 ?c5 ?_)
    case c1 => exact jZz rfl
    case c2 => intro u hu; simp at hu; subst hu; rfl
    case c3 => unfold maxLen; omega
    case c4 => omega
    case c5 => simp; omega
    intro v' w5 hown' hgrow _ hat
    obtain ⟨po', co', rfl⟩ : ∃ po' co', v' = .slice po' (m + 1) co' := by
     rcases hown'.2 with ⟨rfl, hn0⟩ | ⟨g, cap, cur, e, _⟩
     ·exact absurd hn0 (by omega)
     ·exact ⟨_, cap, e⟩
    have HRW' : Hid (w5.ownsRow w.heap.size 3 1 (.slice po' (m + 1) co') (m + 1) ((fl (k + 1) s).map (Value.int .i64))) := hid (by rw [HN1.o, List.map_append]; simpa using hown'); have HE5 := hid ((HE.o.alloc (.cells #[.int .i64 (k : Int)] 3)).grown hgrow (fun b hb => (HOX.o.lt b hb).1)); clear hown' hgrow hat
    go_wp2; go_roundw
    case rel => exact ⟨k + 1, m + 1, _, _, by omega, by go_num, rfl, by rw [HN1.o, List.length_append, HM.o]; rfl, HRW'.o, HE5.o⟩
    case measure => simp [intOf]; omega
  ·obtain rfl : k = N := by omega
   go_wp2; go_ret; exact ⟨⟨_, rfl, jZ1.mk HO.o HM.o⟩, HE.o⟩
theorem jZl.setOld {B : Nat} {w : World} {v : Value} {l : List In3} (h : jZl B w v l) {p : Addr} (hp : p.block < B) (u : Value) : jZl B (w.setCell p u) v l := by
 obtain ⟨vs, ho, he⟩ := h
 refine ⟨vs, ownsRow_setCell_below ho hp u, fun i x hi => ?_⟩
 obtain ⟨u0, u1, u2, a0, a1, a2, b0, b1, b2⟩ := he i x hi
 exact ⟨u0, u1, u2, a0, a1, a2, b0, b1, b2.setOld hp u⟩
end
section
open Go.RowKit Go.Maps Go.Sort
theorem jY3i : ∀ {l m : List Int}, l.Pairwise (· < ·) -> m.Pairwise (· < ·) -> (∀ x, x ∈ l ↔ x ∈ m) -> l = m
 | [], [], _, _, _ => rfl
 | [], y :: m, _, _, h => by have := (h y).2 (by simp); simp at this
 | x :: l, [], _, _, h => by have := (h x).1 (by simp); simp at this
 | x :: l, y :: m, hl, hm, h => by
  obtain ⟨hx, hl2⟩ := List.pairwise_cons.1 hl; obtain ⟨hy, hm2⟩ := List.pairwise_cons.1 hm
  have e : x = y := by
   rcases List.mem_cons.1 ((h x).1 (by simp)) with e | e
   ·exact e
   ·rcases List.mem_cons.1 ((h y).2 (by simp)) with e2 | e2
    ·exact e2.symm
    ·have := hy x e; have := hx y e2; omega
  subst e; congr 1; refine jY3i hl2 hm2 (fun z => ⟨fun hz => ?_, fun hz => ?_⟩)
  ·rcases List.mem_cons.1 ((h z).1 (List.mem_cons_of_mem _ hz)) with e | e
   ·subst e; have := hx z hz; omega
   ·exact e
  ·rcases List.mem_cons.1 ((h z).2 (List.mem_cons_of_mem _ hz)) with e | e
   ·subst e; have := hy z hz; omega
   ·exact e
theorem fl_mem {N : Nat} {s : List Int} {x : Int} : x ∈ fl N s ↔ x ∈ s /\ 0 <= x /\ x < N := by
 simp only [fl, List.mem_map, List.mem_filter, List.mem_range, decide_eq_true_eq]
 constructor
 ·rintro ⟨j, ⟨h1, h2⟩, rfl⟩
  exact ⟨h2, by omega, by omega⟩
 ·rintro ⟨h1, h2, h3⟩
  exact ⟨x.toNat, ⟨by omega, by rwa [Int.toNat_of_nonneg h2]⟩, Int.toNat_of_nonneg h2⟩
theorem fl_asc (N : Nat) (s : List Int) : (fl N s).Pairwise (· < ·) := by
 induction N with
 | zero => simp [fl]
 | succ k ih =>
  by_cases h : (k : Int) ∈ s
  ·rw [fl_yes h, List.pairwise_append]
   refine ⟨ih, by simp, fun a ha b hb => ?_⟩; simp only [List.mem_singleton] at hb; have := (fl_mem.1 ha).2.2; omega
  ·rw [fl_no h]; exact ih
theorem jY39 (zs : List Int) (hs : zs.Pairwise (· <= ·)) : ∀ m, m <= zs.length -> (Lib.compactUpTo zs.toArray m).Pairwise (· < ·) /\ (∀ x, x ∈ Lib.compactUpTo zs.toArray m ↔ x ∈ zs.take m) := by
 intro m
 induction m with
 | zero => intro _; simp [Lib.compactUpTo]
 | succ m ih =>
  intro hm; obtain ⟨h1, h2⟩ := ih (by omega); obtain ⟨z, hz⟩ := jZ0 (xs := zs) (k := m) (by omega); have hzz : zs.toArray[m]! = z := by simp [hz]
  rw [Lib.compactUpTo_succ, jZ6 hz, hzz]; by_cases hk : Lib.keeps zs.toArray m = true
  ·rw [if_pos hk]
   refine ⟨List.pairwise_append.2 ⟨h1, by simp, fun a ha b hb => ?_⟩, fun x => by rw [List.mem_append, List.mem_append, h2]⟩; simp only [List.mem_singleton] at hb; subst hb; have ha' := (h2 a).1 ha; obtain ⟨i, hi⟩ := List.mem_iff_getElem?.1 ha'; have him : i < m := by have := (List.getElem?_eq_some_iff.1 hi).1; simp at this; omega
   rw [List.getElem?_take_of_lt him] at hi; obtain ⟨y, hy⟩ := jZ0 (xs := zs) (k := m - 1) (by omega)
   have hyb : y <= b := by
    have := List.pairwise_iff_getElem.1 hs (m - 1) m (by omega) (by omega) (by omega); rw [(List.getElem?_eq_some_iff.1 hy).2, (List.getElem?_eq_some_iff.1 hz).2] at this; exact this
   have hne : b ≠ y := by
    have h := hk; simp only [Lib.keeps, decide_eq_true_eq] at h; rcases h with h | h
    ·omega
    ·rw [hzz] at h
     have : zs.toArray[m - 1]! = y := by simp [hy]
     rwa [this] at h
   have hay : a <= y := by
    by_cases e : i = m - 1
    ·subst e; rw [hi] at hy; cases hy; exact Int.le_refl _
    ·have := List.pairwise_iff_getElem.1 hs i (m - 1) (by omega) (by omega) (by omega)
     rw [(List.getElem?_eq_some_iff.1 hy).2, (List.getElem?_eq_some_iff.1 hi).2] at this; exact this
   omega
  ·rw [if_neg hk, List.append_nil]
   refine ⟨h1, fun x => ?_⟩; rw [List.mem_append, h2]; refine ⟨.inl, fun h => ?_⟩; rcases h with h | h
   ·exact h
   ·simp only [List.mem_singleton] at h
    subst h; have h := hk; simp only [Lib.keeps, decide_eq_true_eq, not_or, Decidable.not_not] at h; obtain ⟨y, hy⟩ := jZ0 (xs := zs) (k := m - 1) (by omega); have e : zs.toArray[m - 1]! = y := by simp [hy]
    rw [hzz, e] at h; rw [h.2]; exact List.mem_iff_getElem?.2 ⟨m - 1, by rw [List.getElem?_take_of_lt (by omega)]; exact hy⟩
def ascL (xs : List Int) : List Int := Lib.compact (xs.mergeSort fun x y => decide (x <= y))
theorem jY4D (xs : List Int) : (ascL xs).Pairwise (· < ·) /\ ∀ x, x ∈ ascL xs ↔ x ∈ xs := by
 have hs : (xs.mergeSort fun x y => decide (x <= y)).Pairwise (· <= ·) := by
  have h := List.pairwise_mergeSort (le := fun (x y : Int) => decide (x <= y)) (by intro a b c; simp; omega) (by intro a b; simp; omega) xs; exact h.imp (fun h => by simpa using h)
 obtain ⟨h1, h2⟩ := jY39 _ hs _ (Nat.le_refl _)
 refine ⟨h1, fun x => ?_⟩
 show x ∈ Lib.compactUpTo _ _ ↔ _
 rw [h2, List.take_length, List.mem_mergeSort]
theorem ascL_fl {N : Nat} {xs : List Int} (h : ∀ x ∈ xs, 0 <= x /\ x < N) : ascL xs = fl N xs :=
 jY3i (jY4D xs).1 (fl_asc N xs) (fun x => by rw [(jY4D xs).2, fl_mem]; exact ⟨fun hx => ⟨hx, h x hx⟩, fun hx => hx.1⟩)
theorem jY67 (xs : List Int) : (ascL xs).length <= xs.length := by
 have h := Lib.compact_length_le (xs.mergeSort fun x y => decide (x <= y))
 rwa [List.length_mergeSort] at h
theorem jY3t (W : World) : grow W #[] = W := by
 obtain ⟨_, _, _, _, _⟩ := W
 simp [grow]
theorem jY16 (B : Nat) (p : Option Addr) (n c : Nat) (xs : List Int) (w : World) (hn : xs.length = n) (ho : jZ1 B w (.slice p n c) xs) (hm : n <= 1048576) :
  Calls Tryz.prog 129 #[.slice p n c] w fun e w' => (∃ v', e = .returned v' /\ jZ1 B w' v' (ascL xs)) /\ Lv (fun b => B <= b) w w' := by
 by_cases h0 : n = 0
 ·subst h0
  obtain rfl : xs = [] := List.eq_nil_of_length_eq_zero hn
  go_enter Tryz.func129, Tryz.ntmps129
  go_wp2_with (fail); refine (Tryz.slices_Sort_int_none p c w).mono ?_; rintro e w1 ⟨rfl, rfl⟩; go_wp2_with (fail); refine (Tryz.slices_Compact_int_empty p c w1).mono ?_; rintro e w2 ⟨rfl, rfl⟩; go_wp2; go_ret; have e0 : ascL [] = [] := by simp [ascL, Lib.compact, Lib.compactUpTo]
  exact ⟨⟨_, rfl, by rw [e0]; exact ho⟩, Lv.refl _ _⟩
 ·rcases ho.2 with ⟨_, h⟩ | ⟨g, cap, cur, hv, hB, hg, h1, h2, h3, h4⟩
  ·omega
  ·cases hv
   rw [Nat.mul_one] at h4; have hgl := lt_of_block hg; obtain ⟨ts, hts⟩ : ∃ ts, (xs.mergeSort fun x y => decide (x <= y)) = ts := ⟨_, rfl⟩; have htl : ts.length = xs.length := by rw [<- hts, List.length_mergeSort]
   have HA : Hid (ascL xs = Lib.compact ts) := hid (by rw [<- hts]; rfl); have hal := jY67 xs; rw [HA.o] at hal; rw [HA.o]; clear hn; have HG := hid hg; have HTS := hid hts; have HTL := hid htl; have H4 := hid h4; have H3 := hid h3; clear hg hts htl h4 ho h3
   go_enter Tryz.func129, Tryz.ntmps129
   go_wp2_with (fail); refine (Tryz.slices_Sort_int g 0 c xs w (holds_of_blockI HG.o H4.o) hgl (by omega)).mono ?_; rw [HTS.o]; rintro e w1 ⟨rfl, n1, os1, hw1⟩; have HO1 : Hid (w1.ownsRow B 3 1 (.slice (some ⟨g, 0, none⟩) xs.length c) xs.length (ts.map (Value.int .i64))) := hid (by rw [hw1]; exact ownsRow_sortedI HTL.o hB HG.o h1 h2 H3.o); have HL1 : Hid (Lv (fun b => B <= b) w w1) := hid (by rw [hw1]; exact Lv.grown (grownBy_sortedI _) (fun r hr _ => by cases hr; exact hB)); clear hw1; rcases HO1.o.2 with ⟨_, h⟩ | ⟨g', cap', cur1, hv', hB', hg', h1', h2', h3', h4'⟩
   ·omega
   ·cases hv'
    rw [Nat.mul_one] at h4'; have hcomp := Tryz.slices_Compact_int g 0 c ts w1 (holds_of_blockI hg' (by rw [HTL.o]; exact h4')) (by rw [HTL.o]; omega) (by rw [HTL.o]; exact h1'); rw [HTL.o] at hcomp; have HC := hid hcomp; have HG1 := hid hg'; have H31 := hid h3'; clear hcomp hg' h4' h3'; go_wp2_with (fail); refine HC.o.mono ?_; rintro e w2 ⟨rfl, q2, hw2⟩
    have hll : (Lib.compact ts ++ List.replicate (xs.length - (Lib.compact ts).length) 0).length = xs.length := by
     rw [List.length_append, List.length_replicate]; omega
    have HO2 : Hid (w2.ownsRow B 3 1 (.slice (some ⟨g, 0, none⟩) xs.length c) xs.length ((Lib.compact ts ++ List.replicate (xs.length - (Lib.compact ts).length) 0).map (Value.int .i64))) := hid (by
     have h := ownsRow_sortedI (n := q2) (os := #[]) hll hB HG1.o h1 h2 H31.o; rw [jY3t] at h; rw [hw2]
     exact h)
    have HL2 : Hid (Lv (fun b => B <= b) w1 w2) := hid (by
     have h := grownBy_sortedI (w := w1) (g := g) (n := q2) (os := #[]) (Lib.compact ts ++ List.replicate (xs.length - (Lib.compact ts).length) 0).toArray; rw [jY3t] at h; rw [hw2]
     exact Lv.grown h (fun r hr _ => by cases hr; exact hB))
    clear hw2; go_wp2; go_ret; refine ⟨⟨_, rfl, ?_⟩, HL1.o.trans HL2.o (fun _ _ h => h) (fun _ _ h => h)⟩; rcases HO2.o.2 with ⟨_, h⟩ | ⟨g', cap', cur2, hv', hB', hg', h1', h2', h3', h4'⟩
    ·omega
    ·cases hv'
     refine ⟨by simp, .inr ⟨g, c, cur2, rfl, hB, hg', by omega, h2', h3', ?_⟩⟩; rw [Nat.mul_one]
     calc cur2.toList.take (Lib.compact ts).length = (cur2.toList.take (xs.length * 1)).take (Lib.compact ts).length := by rw [List.take_take, Nat.min_eq_left (by omega)]
      _ = ((Lib.compact ts ++ List.replicate (xs.length - (Lib.compact ts).length) 0).map (Value.int .i64)).take (Lib.compact ts).length := by rw [h4']
      _ = (Lib.compact ts).map (Value.int .i64) := by rw [List.map_append, List.take_append_of_le_length (Nat.le_of_eq (List.length_map _).symm), List.take_of_length_le (Nat.le_of_eq (List.length_map _))]
end
section
open Go.RowKit Go.Maps
end
end Go.Proofs.YtklehkkclojccaaGreat
