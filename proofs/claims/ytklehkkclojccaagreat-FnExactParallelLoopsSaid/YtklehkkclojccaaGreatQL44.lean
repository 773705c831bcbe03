/- The texts G26 G27 G37, joined. No statement is proved here. -/
import Derived.Test.YtklehkkclojccaaGreatQL37
import Derived.Test.YtklehkkclojccaaGreatQL51
set_option maxRecDepth 100000
set_option maxHeartbeats 8000000
set_option linter.unusedVariables false
set_option linter.unusedSimpArgs false
namespace Go.Proofs.YtklehkkclojccaaGreat
open Go.Lib (hid)
section
open Go.RowKit Go.Maps
theorem jY4W (ars : List Arr) (ps : List Pt) : (usesM ars ps).length = (insM ps).length := by unfold usesM; rw [List.length_map]
theorem jVY (p : Option Addr) (n c : Nat) (xs : List Int) (x : Int) (w : World) (hn : xs.length = n) (hs : IntsAt w (.slice p n c) xs) :
  Calls Tryz.prog 130 #[.slice p n c, .int .i64 x] w fun e w' => (∃ k : Int, e = .returned (.int .i64 k) /\ decide (0 <= k) = decide (x ∈ xs)) /\ Ext w w' := by
 obtain ⟨hm, hc⟩ := hs.cl
 have HN := hid hn; have HC := hid hc
 clear hn hc hs
 obtain ⟨ans, hans⟩ : ∃ a, decide (x ∈ xs) = a := ⟨_, rfl⟩
 rw [hans]
 have HANS := hid hans; clear hans
 go_enter Tryz.func130, Tryz.ntmps130
 go_wp2
 go_loopw [8] (fun i wr => ∃ k : Nat, k <= n /\ i = .int .i64 k /\ (∀ y ∈ xs.take k, y ≠ x) /\ Ext w wr) (fun i _ => n - (intOf i).toNat)
 case atStart => exact ⟨0, by omega, rfl, by simp, Ext.refl w⟩
 case round =>
  obtain ⟨k, hk, rfl, hne, hE⟩ := hrel; have HNE := hid hne; have HE := hid hE; clear hne hE; by_cases hlt : k < n
  ·obtain ⟨y, hy⟩ := jZ0 (xs := xs) (k := k) (by rw [HN.o]; exact hlt)
   obtain ⟨b, off, rfl, hcell⟩ := HC.o k y hy; have hcl := HE.o.keep hcell; have HY := hid hy; clear hy hcell; by_cases h0 : y = x
   ·have hb : (x == y) = true := by simp [h0]
    have HR : Hid (ans = true) := hid (by rw [<- HANS.o, <- h0]; exact decide_eq_true (List.mem_of_getElem? HY.o)); clear h0; go_wp2; go_ret; exact ⟨⟨(k : Int), rfl, by rw [HR.o]; simp⟩, HE.o⟩
   ·have hb : (x == y) = false := by simp; exact fun h => h0 h.symm
    have HNX := hid (jY35 HY.o HNE.o h0); clear h0; go_wp2; go_roundw
    case rel => exact ⟨k + 1, by omega, by go_num, HNX.o, HE.o⟩
    case measure => simp [intOf]; omega
  ·obtain rfl : k = n := by omega
   have HR : Hid (ans = false) := hid (by rw [<- HANS.o]; exact jY2s (by rw [HN.o]; omega) HNE.o); go_wp2; go_ret; exact ⟨⟨-1, rfl, by rw [HR.o]; rfl⟩, HE.o⟩
theorem jVl (p : Option Addr) (n c : Nat) (xs : List Int) (x : Int) (w : World) (hn : xs.length = n) (hs : IntsAt w (.slice p n c) xs) :
  Calls Tryz.prog 76 #[.slice p n c, .int .i64 x] w fun e w' => e = .returned (.bool (decide (x ∈ xs))) /\ Ext w w' := by
 go_enter Tryz.func76, Tryz.ntmps76
 go_wp2_with (fail)
 refine (jVY p n c xs x _ hn hs).mono ?_
 rintro e w1 ⟨⟨k, rfl, hk⟩, hE⟩
 obtain ⟨ans, hans⟩ : ∃ a, decide (x ∈ xs) = a := ⟨_, rfl⟩
 rw [hans] at hk
 have HANS := hid hans; clear hans
 go_wp2
 go_ret
 exact ⟨jZ2 HANS.o.symm, hE⟩
theorem jXc (k d : Int) (r : Int) (b : Bool) (w : World) (hk : k ∈ [0, 1, 2, 3]) (hd : d ∈ [1, 2, 4]) (hr : r = if b then k + d else k) (hkd : k < d) :
  Calls Tryz.prog 235 #[.int .i64 k, .int .i64 d, .bool b] w fun e w' => e = .returned (.int .i64 r) /\ w' = w := by
 subst hr
 cases b with
 | false =>
  go_enter Tryz.func235, Tryz.ntmps235
  go_wp2; go_ret; exact ⟨rfl, rfl⟩
 | true =>
  simp only [List.mem_cons, List.not_mem_nil, or_false] at hk hd
  rcases hd with rfl | rfl | rfl <;> rcases hk with rfl | rfl | rfl | rfl <;> first
   | (exfalso; omega)
   | (go_enter Tryz.func235, Tryz.ntmps235; go_wp2; go_ret; exact ⟨rfl, rfl⟩)
end
section
open Go.RowKit Go.Maps
def k1of (b1 : Bool) : Int := if b1 then 0 + 1 else 0
def k2of (b1 b2 : Bool) : Int := if b2 then k1of b1 + 2 else k1of b1
def k3of (b1 b2 b3 : Bool) : Int := if b3 then k2of b1 b2 + 4 else k2of b1 b2
theorem k1_mem (b1 : Bool) : k1of b1 ∈ [(0 : Int), 1, 2, 3] := by cases b1 <;> decide
theorem k2_mem (b1 b2 : Bool) : k2of b1 b2 ∈ [(0 : Int), 1, 2, 3] := by cases b1 <;> cases b2 <;> decide
theorem k1_lt (b1 : Bool) : k1of b1 < 2 := by cases b1 <;> decide
theorem k2_lt (b1 b2 : Bool) : k2of b1 b2 < 4 := by cases b1 <;> cases b2 <;> decide
theorem k3_kind (a b : Us) : k3of (decide (a.2 ∈ b.1)) (decide (b.2 ∈ a.1)) (decide (a.2 = b.2)) = kindB a b := by
 unfold kindB
 by_cases h1 : a.2 ∈ b.1 <;> by_cases h2 : b.2 ∈ a.1 <;> by_cases h3 : a.2 = b.2
 all_goals (first | rw [decide_eq_true h1, if_pos h1] | rw [decide_eq_false h1, if_neg h1])
 all_goals (first | rw [decide_eq_true h2, if_pos h2] | rw [decide_eq_false h2, if_neg h2])
 all_goals (first | rw [decide_eq_true h3, if_pos h3] | rw [decide_eq_false h3, if_neg h3])
 all_goals rfl
theorem jY1j (ib jb ia ja : Int) (qb qa rb ra : Option Addr) (lb cb la ca nb kb na ka : Nat) (a b : Us) (w : World) (hb : b.1.length = nb) (ha : a.1.length = na) (hrb : IntsAt w (.slice rb nb kb) b.1) (hra : IntsAt w (.slice ra na ka) a.1) :
  Calls Tryz.prog 174 #[.agg #[.int .i64 ib, .int .i64 jb, .slice qb lb cb, .slice rb nb kb, .int .i64 b.2], .agg #[.int .i64 ia, .int .i64 ja, .slice qa la ca, .slice ra na ka, .int .i64 a.2]] w fun e w' => e = .returned (.int .i64 (kindB a b)) /\ Ext w w' := by
 have HA := hid ha; have HB := hid hb; have HRA := hid hra; have HRB := hid hrb
 have HK := hid (k3_kind a b)
 obtain ⟨xa, wa⟩ := a
 obtain ⟨xb, wb⟩ := b
 dsimp only at *
 obtain ⟨ans, hans⟩ : ∃ z, kindB (xa, wa) (xb, wb) = z := ⟨_, rfl⟩
 rw [hans] at HK ⊢
 clear ha hb hra hrb hans
 go_enter Tryz.func174, Tryz.ntmps174
 go_wp2_with (fail)
 obtain ⟨W0, hW0⟩ : ∃ W0, ((w.alloc (.cells #[.int .i64 ib, .int .i64 jb, .slice qb lb cb, .slice rb nb kb, .int .i64 wb] 76)).alloc (.cells #[.int .i64 ia, .int .i64 ja, .slice qa la ca, .slice ra na ka, .int .i64 wa] 76)) = W0 := ⟨_, rfl⟩
 have E0 : Hid (Ext w W0) := hid (by rw [<- hW0]; exact ((Ext.refl w).alloc _).alloc _)
 have A0 := hid (show W0.heap[w.heap.size]? = some (.cells #[.int .i64 ib, .int .i64 jb, .slice qb lb cb, .slice rb nb kb, .int .i64 wb] 76 (0, 0)) by rw [<- hW0]; exact jZ4 (blk_at rfl))
 have A1 := hid (show W0.heap[w.heap.size + 1]? = some (.cells #[.int .i64 ia, .int .i64 ja, .slice qa la ca, .slice ra na ka, .int .i64 wa] 76 (0, 0)) by rw [<- hW0]; exact blk_at (by simp))
 try rw [hW0]
 clear hW0
 refine (jVl rb nb kb xb wa _ HB.o (HRB.o.ext E0.o)).mono ?_
 rintro e w1 ⟨rfl, hE1⟩
 have E1 := hid (E0.o.trans hE1); have B0 := hid (hE1.blk A0.o); have B1 := hid (hE1.blk A1.o)
 obtain ⟨b1, hb1⟩ : ∃ b1, decide (wa ∈ xb) = b1 := ⟨_, rfl⟩
 rw [hb1]
 rw [hb1] at HK
 clear hE1 hb1
 go_wp2_with (fail)
 refine (jXc 0 1 (k1of b1) b1 _ (by decide) (by decide) rfl (by decide)).mono ?_
 rintro e w1' ⟨rfl, rfl⟩
 have h1m := hid (k1_mem b1); have h1l := hid (k1_lt b1)
 obtain ⟨k1, hk1⟩ : ∃ k1, k1of b1 = k1 := ⟨_, rfl⟩
 rw [hk1] at h1m h1l
 rw [hk1]
 have HK1 := hid hk1
 clear hk1
 obtain ⟨y0, y1, y2, y3, y4, -⟩ := blk5e B0.o
 obtain ⟨z0, z1, z2, z3, z4, -⟩ := blk5e B1.o
 go_wp2_with (fail)
 refine (jVl ra na ka xa wb _ HA.o (HRA.o.ext E1.o)).mono ?_
 rintro e w2 ⟨rfl, hE2⟩
 have E2 := hid (E1.o.trans hE2); have D0 := hid (hE2.blk B0.o); have D1 := hid (hE2.blk B1.o)
 obtain ⟨b2, hb2⟩ : ∃ b2, decide (wb ∈ xa) = b2 := ⟨_, rfl⟩
 rw [hb2]
 rw [hb2] at HK
 clear hE2 hb2 y0 y1 y2 y3 y4 z0 z1 z2 z3 z4
 go_wp2_with (fail)
 refine (jXc k1 2 (k2of b1 b2) b2 _ h1m.o (by decide) (by rw [<- HK1.o]; rfl) h1l.o).mono ?_
 rintro e w2' ⟨rfl, rfl⟩
 have h2m := hid (k2_mem b1 b2); have h2l := hid (k2_lt b1 b2)
 obtain ⟨k2, hk2⟩ : ∃ k2, k2of b1 b2 = k2 := ⟨_, rfl⟩
 rw [hk2] at h2m h2l
 rw [hk2]
 have HK2 := hid hk2
 clear hk2
 obtain ⟨y0, y1, y2, y3, y4, -⟩ := blk5e D0.o
 obtain ⟨z0, z1, z2, z3, z4, -⟩ := blk5e D1.o
 by_cases h3 : wa = wb
 ·have hb4 : (wa == wb) = true := by simpa using h3
  have HK3 : Hid (k3of b1 b2 true = ans) := hid (by have h := HK.o; rw [decide_eq_true h3] at h; exact h); clear h3 HK; go_wp2_with (fail); refine (jXc k2 4 (k3of b1 b2 true) true _ h2m.o (by decide) (by rw [<- HK2.o]; simp [k3of]) h2l.o).mono ?_; rintro e w3 ⟨rfl, rfl⟩; rw [HK3.o]; go_wp2; go_ret; exact ⟨rfl, E2.o⟩
 ·have hb4 : (wa == wb) = false := by simpa using h3
  have HK3 : Hid (k3of b1 b2 false = ans) := hid (by have h := HK.o; rw [decide_eq_false h3] at h; exact h); clear h3 HK; go_wp2_with (fail); refine (jXc k2 4 (k3of b1 b2 false) false _ h2m.o (by decide) (by rw [<- HK2.o]; simp [k3of]) h2l.o).mono ?_; rintro e w3 ⟨rfl, rfl⟩; rw [HK3.o]; go_wp2; go_ret; exact ⟨rfl, E2.o⟩
end
section
open Go.RowKit Go.Maps
abbrev D3 := Nat × Nat × Int
def depAt (K : Nat -> Nat -> Int) (i k : Nat) : List D3 := if i < k /\ K i k ≠ 0 then [(i, k, K i k)] else []
def rowTo (K : Nat -> Nat -> Int) (i k : Nat) : List D3 := (List.range k).flatMap (depAt K i)
def depsTo (K : Nat -> Nat -> Int) (M i : Nat) : List D3 := (List.range i).flatMap (fun j => rowTo K j M)
theorem jWl (K : Nat -> Nat -> Int) (i : Nat) : ∀ k, k <= i + 1 -> rowTo K i k = []
 | 0, _ => rfl
 | k + 1, h => by
  have ih := jWl K i k (by omega); unfold rowTo at ih ⊢; rw [List.range_succ, List.flatMap_append, ih]; have : ¬ (i < k) := by omega
  simp [depAt, this]
theorem jW7 (K : Nat -> Nat -> Int) (i k : Nat) : rowTo K i (k + 1) = rowTo K i k ++ depAt K i k := by simp [rowTo, List.range_succ]
theorem jWm (K : Nat -> Nat -> Int) (M i : Nat) : depsTo K M (i + 1) = depsTo K M i ++ rowTo K i M := by simp [depsTo, List.range_succ]
theorem jY1I {K : Nat -> Nat -> Int} {i k : Nat} (h : i < k) (hk : K i k ≠ 0) : depAt K i k = [(i, k, K i k)] := if_pos ⟨h, hk⟩
theorem jY3n {K : Nat -> Nat -> Int} {i k : Nat} (hk : K i k = 0) : depAt K i k = [] := if_neg (fun h => h.2 hk)
theorem jY5g (K : Nat -> Nat -> Int) (i k : Nat) : (depAt K i k).length <= 1 := by unfold depAt; split <;> simp
theorem jY02 (K : Nat -> Nat -> Int) (i : Nat) : ∀ k, (rowTo K i k).length <= k
 | 0 => by simp [rowTo]
 | k + 1 => by rw [jW7, List.length_append]; have := jY02 K i k; have := jY5g K i k; omega
theorem jW5 (K : Nat -> Nat -> Int) (M : Nat) : ∀ i, (depsTo K M i).length <= i * M
 | 0 => by simp [depsTo]
 | i + 1 => by rw [jWm, List.length_append]; have := jW5 K M i; have := jY02 K i M; rw [Nat.succ_mul]; omega
theorem jY4Q {K : Nat -> Nat -> Int} {i k : Nat} {d : D3} (h : d ∈ depAt K i k) : d.1 = i /\ d.2.1 = k /\ i < k /\ d.2.2 = K i k := by
 unfold depAt at h
 split at h
 ·rename_i hh
  simp at h; subst h; exact ⟨rfl, rfl, hh.1, rfl⟩
 ·simp at h
theorem jY0P {K : Nat -> Nat -> Int} {M i : Nat} {d : D3} (h : d ∈ depsTo K M i) : d.1 < i /\ d.1 < d.2.1 /\ d.2.1 < M /\ d.2.2 = K d.1 d.2.1 := by
 simp only [depsTo, rowTo, List.mem_flatMap, List.mem_range] at h
 obtain ⟨j, hj, k, hk, hd⟩ := h
 obtain ⟨rfl, rfl, h1, h2⟩ := jY4Q hd
 exact ⟨hj, h1, hk, h2⟩
def prRow (i k : Nat) : List (Nat × Nat) := (List.range k).flatMap (fun j => if i < j then [(i, j)] else [])
def prTo (M i : Nat) : List (Nat × Nat) := (List.range i).flatMap (fun j => prRow j M)
theorem jV6 {i k : Nat} (h : i < k) : prRow i (k + 1) = prRow i k ++ [(i, k)] := by simp [prRow, List.range_succ, h]
theorem jXF (i : Nat) : ∀ k, k <= i + 1 -> prRow i k = []
 | 0, _ => rfl
 | k + 1, h => by
  have ih := jXF i k (by omega); unfold prRow at ih ⊢; rw [List.range_succ, List.flatMap_append, ih]; have : ¬ (i < k) := by omega
  simp [this]
theorem jY0j (M i : Nat) : prTo M (i + 1) = prTo M i ++ prRow i M := by simp [prTo, List.range_succ]
theorem jY65 {M i : Nat} (h : i < M) : (prTo M i ++ prRow i M) <+: prTo M M := by
 obtain ⟨t, ht⟩ := jWA h
 refine ⟨t.flatMap (fun j => prRow j M), ?_⟩
 rw [<- jY0j]
 simp only [prTo]
 rw [ht, List.flatMap_append, <- List.range_succ]
theorem jY4n {M i k : Nat} (h : i < k) (hk : k < M) : (prRow i k ++ [(i, k)]) <+: prRow i M := by
 obtain ⟨t, ht⟩ := jWA hk
 refine ⟨t.flatMap (fun j => if i < j then [(i, j)] else []), ?_⟩
 rw [<- jV6 h]
 simp only [prRow]
 rw [ht, List.flatMap_append, <- List.range_succ]
theorem jY1E {M i k : Nat} (h : i < k) (hk : k < M) : (prTo M i ++ prRow i k ++ [(i, k)]) <+: prTo M M := by
 refine List.IsPrefix.trans ?_ (jY65 (show i < M by omega))
 rw [List.append_assoc]
 exact (List.prefix_append_right_inj _).2 (jY4n h hk)
def dpOf (K : Nat -> Nat -> Int) (s : List (Nat × Nat)) : List D3 := s.flatMap (fun x => depAt K x.1 x.2)
theorem jVE (K : Nat -> Nat -> Int) (s : List (Nat × Nat)) (x : Nat × Nat) : dpOf K (s ++ [x]) = dpOf K s ++ depAt K x.1 x.2 := by simp [dpOf]
theorem jY6d (K : Nat -> Nat -> Int) (i k : Nat) : dpOf K (prRow i k) = rowTo K i k := by
 induction k with
 | zero => rfl
 | succ k ih =>
  rw [jW7, <- ih]; by_cases h : i < k
  ·rw [jV6 h, jVE]
  ·rw [jXF i (k+1) (by omega), jXF i k (by omega)]
   simp [dpOf, depAt, h]
theorem jVA (K : Nat -> Nat -> Int) (M : Nat) : ∀ i, dpOf K (prTo M i) = depsTo K M i
 | 0 => rfl
 | i + 1 => by rw [jY0j, jWm, <- jVA K M i, <- jY6d]; simp [dpOf]
theorem jY6l {K : Nat -> Nat -> Int} {s t : List (Nat × Nat)} (h : s <+: t) : dpOf K s <+: dpOf K t := by
 obtain ⟨u, rfl⟩ := h
 exact ⟨dpOf K u, by simp [dpOf]⟩
theorem jY62 {M i : Nat} {x : Nat × Nat} (h : x ∈ prTo M i) : x.1 < i /\ x.1 < x.2 /\ x.2 < M := by
 simp only [prTo, prRow, List.mem_flatMap, List.mem_range] at h
 obtain ⟨j, hj, k, hk, hd⟩ := h
 split at hd
 ·rename_i hh
  simp at hd; subst hd; exact ⟨hj, hh, hk⟩
 ·simp at hd
def lvStep (l : List Int) (d : D3) : List Int := l.set d.2.1 (max (l.getD d.2.1 0) (l.getD d.1 0 + 1))
def lvF (M : Nat) (ds : List D3) : List Int := ds.foldl lvStep (List.replicate M 0)
def flatD (l : List D3) : List Value := l.flatMap (fun d => [.int .i64 (d.1 : Int), .int .i64 (d.2.1 : Int), .int .i64 d.2.2])
theorem jY44 (l : List D3) (d : D3) : flatD (l ++ [d]) = flatD l ++ [.int .i64 (d.1 : Int), .int .i64 (d.2.1 : Int), .int .i64 d.2.2] := by simp [flatD]
theorem jY2h : ∀ {l : List D3} {i : Nat} {d : D3}, l[i]? = some d -> (flatD l)[i * 3]? = some (.int .i64 (d.1 : Int)) /\ (flatD l)[i * 3 + 1]? = some (.int .i64 (d.2.1 : Int)) /\ (flatD l)[i * 3 + 2]? = some (.int .i64 d.2.2)
 | [], _, _, h => by simp at h
 | x :: r, 0, d, h => by simp at h; subst h; simp [flatD]
 | x :: r, i + 1, d, h => by
  rw [List.getElem?_cons_succ] at h; have := jY2h h; have e : flatD (x :: r) = [.int .i64 (x.1 : Int), .int .i64 (x.2.1 : Int), .int .i64 x.2.2] ++ flatD r := by simp [flatD]
  rw [e, show (i + 1) * 3 = i * 3 + 3 by omega, show i * 3 + 3 + 1 = i * 3 + 1 + 3 by omega, show i * 3 + 3 + 2 = i * 3 + 2 + 3 by omega]
  simpa using this
def jZu (B : Nat) (w : World) (v : Value) (l : List D3) : Prop := w.ownsRow B 191 3 v l.length (flatD l)
theorem jZu.ext {B : Nat} {w w' : World} {v : Value} {l : List D3} (h : jZu B w v l) (hE : Ext w w') : jZu B w' v l := jZ3 h hE
theorem jZu.weak {B B' : Nat} {w : World} {v : Value} {l : List D3} (h : jZu B w v l) (hB : B' <= B) : jZu B' w v l := jZ7 h hB
theorem jZu.lv {B : Nat} {D : Nat -> Prop} {w w' : World} {v : Value} {l : List D3} (h : jZu B w v l) (hv : Lv D w w') (hD : ∀ b, v.ownBlock = some b -> ¬ D b) : jZu B w' v l := row_lv h hv hD
theorem jZu.tag {B : Nat} {T : TypeId} {w w' : World} {v : Value} {l : List D3} {row : Option Nat} (h : jZu B w v l) (hg : w.grownBy w' row) (ht : Tag w row T) (hT : T ≠ 191) : jZu B w' v l := jXt h hg ht hT
theorem jZu.setOld {B : Nat} {w : World} {v : Value} {l : List D3} (h : jZu B w v l) {p : Addr} (hp : p.block < B) (u : Value) : jZu B (w.setCell p u) v l := ownsRow_setCell_below h hp u
theorem jZu.form {B : Nat} {w : World} {v : Value} {l : List D3} (h : jZu B w v l) : ∃ p c, v = .slice p l.length c := by
 rcases h.2 with ⟨rfl, hn⟩ | ⟨g, cap, cur, rfl, _⟩
 ·exact ⟨none, 0, by rw [hn]⟩
 ·exact ⟨_, _, rfl⟩
theorem jZu.elem {B n c i : Nat} {w : World} {p : Option Addr} {l : List D3} {d : D3} (h : jZu B w (.slice p n c) l) (hi : l[i]? = some d) :
  ∃ o, p = some ⟨o, 0, none⟩ /\ B <= o /\ o < w.heap.size /\ w.cell? ⟨o, i * 3, none⟩ = some (.int .i64 (d.1 : Int)) /\ w.cell? ⟨o, i * 3 + 1, none⟩ = some (.int .i64 (d.2.1 : Int)) /\ w.cell? ⟨o, i * 3 + 2, none⟩ = some (.int .i64 d.2.2) := by
 obtain ⟨a0, a1, a2⟩ := jY2h hi
 have ho2 := h.2
 rcases ho2 with ⟨e, h0⟩ | ⟨o, cap, cur, e, hB, hg, _⟩
 ·have := (List.getElem?_eq_some_iff.1 hi).1; omega
 ·cases e
  have hc := World.ownsRow.cells h (g := o) rfl; have c0 := hc _ _ a0; have c1 := hc _ _ a1; have c2 := hc _ _ a2; simp only [Addr.add_lit, Nat.zero_add] at c0 c1 c2; exact ⟨o, rfl, hB, lt_of_block hg, c0, c1, c2⟩
theorem infoDep : (Tryz.prog.info? 191).map (fun i => (i.zero, i.size, i.bytes)) = some (some (.agg #[.int .i64 0, .int .i64 0, .int .i64 0]), 3, 24) := by kernel_rfl
theorem jY5O : Tryz.prog.underlying 96 = some (.slice 191) := by kernel_rfl
theorem jZC.tag {B : Nat} {T : TypeId} {w w' : World} {v : Value} {l : List Us} {row : Option Nat} (h : jZC B w v l) (hg : w.grownBy w' row) (ht : Tag w row T) (hT : T ≠ 3) (hT2 : T ≠ 204) : jZC B w' v l := by
 obtain ⟨vs, h1, h2⟩ := h
 exact ⟨vs, jXt h1 hg ht hT2, fun i x hi => by obtain ⟨u0, u1, a, b, d⟩ := h2 i x hi; exact ⟨u0, u1, a, b, d.1.tag hg ht hT, d.2⟩⟩
theorem jZ1.cellI {B g n c i : Nat} {w : World} {xs : List Int} {x : Int} (h : jZ1 B w (.slice (some ⟨g, 0, none⟩) n c) xs) (hi : xs[i]? = some x) : w.cell? ⟨g, i, none⟩ = some (.int .i64 x) := by
 have hc := World.ownsRow.cells h (g := g) rfl i (.int .i64 x) (by rw [List.getElem?_map, hi]; rfl)
 simpa only [Addr.add_lit, Nat.zero_add] using hc
theorem jZ1.frz {B g n c : Nat} {w : World} {xs : List Int} (h : jZ1 B w (.slice (some ⟨g, 0, none⟩) n c) xs) (j : Nat) : w.frozen? ⟨g, j, none⟩ = false := by
 rcases h.2 with ⟨e, _⟩ | ⟨g', cap, cur, e, _, hg, _⟩
 ·cases e
 ·cases e; exact frozen_of_row w g j cur 3 hg
theorem jZ1.store {B g n c : Nat} {w : World} {xs : List Int} (h : jZ1 B w (.slice (some ⟨g, 0, none⟩) n c) xs) (hn : xs.length = n) (j : Nat) (x : Int) : jZ1 B (w.setCell ⟨g, j, none⟩ (.int .i64 x)) (.slice (some ⟨g, 0, none⟩) n c) (xs.set j x) := by
 have h2 := (World.ownsRow.stored (h.row hn) j (.int .i64 x)).1
 rw [<- List.map_set] at h2
 exact jZ1.mk h2 (by simpa using hn)
def kOf (us : List Us) (i k : Nat) : Int := match us[i]?, us[k]? with
 | some x, some y => kindB x y
 | _, _ => 0
theorem kOf_is {us : List Us} {i k : Nat} {x y : Us} (hx : us[i]? = some x) (hy : us[k]? = some y) : kOf us i k = kindB x y := by unfold kOf; rw [hx, hy]
def cntB (ars : List Arr) (ps : List Pt) : Nat := if progB ars ps = true then (insM ps).length else 0
def depsB (ars : List Arr) (ps : List Pt) : List D3 := if progB ars ps = true then depsTo (kOf (usesM ars ps)) (insM ps).length (insM ps).length else []
theorem jY5r {ars : List Arr} {ps : List Pt} {d : D3} (h : d ∈ depsB ars ps) : d.1 < d.2.1 /\ d.2.1 < cntB ars ps := by
 unfold depsB at h
 unfold cntB
 split at h
 ·rename_i hb; rw [if_pos hb]; have := jY0P h; exact ⟨this.2.1, this.2.2.1⟩
 ·simp at h
theorem jY1w (ars : List Arr) (ps : List Pt) : (depsB ars ps).length <= 14400 := by
 unfold depsB
 split
 ·rename_i hb
  have h1 := jW5 (kOf (usesM ars ps)) (insM ps).length (insM ps).length; have h2 := jWE hb; have h3 : (insM ps).length * (insM ps).length <= 120 * 120 := Nat.mul_le_mul h2 h2; omega
 ·simp
theorem jY4L (a b : Us) : 0 <= kindB a b /\ kindB a b <= 7 := by
 unfold kindB
 split <;> split <;> split <;> omega
end
end Go.Proofs.YtklehkkclojccaaGreat
