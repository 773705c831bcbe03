/- The texts G19 G20 G21, joined. No statement is proved here. -/
import Derived.Test.YtggpjapmhakklaaGreatQL24
import Derived.Test.YtggpjapmhakklaaGreatQL17
import Derived.Test.YtggpjapmhakklaaGreatQL28
set_option maxRecDepth 100000
set_option maxHeartbeats 8000000
set_option linter.unusedVariables false
set_option linter.unusedSimpArgs false
namespace Go.Proofs.YtggpjapmhakklaaGreat
open Go.Lib (hid)
open Go.RowKit Go.Maps
inductive All2 {α β : Type} (R : α → β → Prop) : List α → List β → Prop
 | nil : All2 R [] []
 | cons {x : α} {y : β} {xs : List α} {ys : List β} (h : R x y) (t : All2 R xs ys) : All2 R (x :: xs) (y :: ys)
theorem All2.length {α β : Type} {R : α → β → Prop} {xs : List α} {ys : List β} (h : All2 R xs ys) : xs.length = ys.length := by
 induction h with
 | nil => rfl
 | cons _ _ ih => simp [ih]
theorem All2.app {α β : Type} {R : α → β → Prop} {xs xs' : List α} {ys ys' : List β} (h : All2 R xs ys) (k : All2 R xs' ys') : All2 R (xs ++ xs') (ys ++ ys') := by
 induction h with
 | nil => exact k
 | cons h _ ih => exact .cons h ih
theorem All2.map {α β γ δ : Type} {S : α → β → Prop} {R : γ → δ → Prop} {f : α → γ} {g : β → δ} {xs : List α} {ys : List β} (h : All2 S xs ys) (hf : ∀ x y, S x y → R (f x) (g y)) : All2 R (xs.map f) (ys.map g) := by
 induction h with
 | nil => exact .nil
 | cons h _ ih => exact .cons (hf _ _ h) ih
theorem All2.flatMap {α β γ δ : Type} {S : α → β → Prop} {R : γ → δ → Prop} {f : α → List γ} {g : β → List δ} {xs : List α} {ys : List β} (h : All2 S xs ys) (hf : ∀ x y, S x y → All2 R (f x) (g y)) : All2 R (xs.flatMap f) (ys.flatMap g) := by
 induction h with
 | nil => exact .nil
 | cons h _ ih => simp only [List.flatMap_cons]; exact (hf _ _ h).app ih
theorem All2.get {α β : Type} {R : α → β → Prop} {xs : List α} {ys : List β} (h : All2 R xs ys) : ∀ {i : Nat} {x : α}, xs[i]? = some x → ∃ y, ys[i]? = some y ∧ R x y := by
 induction h with
 | nil => intro i x hx; simp at hx
 | cons h _ ih =>
  intro i x hx
  cases i with
  | zero => simp at hx; subst hx; exact ⟨_, rfl, h⟩
  | succ i => exact ih (by simpa using hx)
theorem All2.of_get {α β : Type} {R : α → β → Prop} : ∀ {xs : List α} {ys : List β}, xs.length = ys.length → (∀ (i : Nat) (x : α) (y : β), xs[i]? = some x → ys[i]? = some y → R x y) → All2 R xs ys
 | [], [], _, _ => .nil
 | x :: xs, y :: ys, hl, h => .cons (h 0 x y rfl rfl) (All2.of_get (by simpa using hl) (fun i a b ha hb => h (i + 1) a b (by simpa using ha) (by simpa using hb)))
 | [], _ :: _, hl, _ => by simp at hl
 | _ :: _, [], hl, _ => by simp at hl
theorem pre_get {α : Type} {pre xs : List α} {x : α} (h : (pre ++ [x]) <+: xs) : xs[pre.length]? = some x := by
 obtain ⟨t, rfl⟩ := h; simp
theorem list_of {α β : Type} : ∀ {xs : List α} {P : Nat → α → β → Prop}, (∀ i x, xs[i]? = some x → ∃ y, P i x y) → ∃ ys : List β, ys.length = xs.length ∧ ∀ i x, xs[i]? = some x → ∃ y, ys[i]? = some y ∧ P i x y
 | [], _, _ => ⟨[], rfl, fun i x h => by simp at h⟩
 | x :: xs, P, h => by
  obtain ⟨y, hy⟩ := h 0 x rfl
  obtain ⟨ys, hl, hs⟩ := list_of (xs := xs) (P := fun i a b => P (i + 1) a b) (fun i a ha => h (i + 1) a (by simpa using ha))
  refine ⟨y :: ys, by simp [hl], fun i a ha => ?_⟩
  cases i with
  | zero => simp at ha; subst ha; exact ⟨y, rfl, hy⟩
  | succ i => obtain ⟨b, h1, h2⟩ := hs i a (by simpa using ha); exact ⟨b, by simpa using h1, h2⟩
abbrev InsM := (Nat × Nat × List Int) × St
def noSt : St := (ByteArray.empty, [], .mk 0 0 ([], 0) ByteArray.empty [] [])
def visM (pts : List (List Int)) (nb : Nat) : List (List Int × Nat) := pts.flatMap (fun v => (List.range nb).map (fun k => (v, k)))
def insP1 (i : Nat) (p : Pt) : List InsM := (visM (nptsL p.1) p.2.length).map (fun x => ((i, x.2, x.1), p.2.getD x.2 noSt))
def insU (ps : List Pt) (i : Nat) : List InsM := (List.range i).flatMap (fun j => insP1 j (ps.getD j ([], [])))
def insM (ps : List Pt) : List InsM := insU ps ps.length
abbrev Ev := (Nat × Nat × List Int) × (List Int × Int)
def evOf (ars : List Arr) (x : InsM) : Ev := (x.1, readCells ars x.2 x.1.2.2, writeCell ars x.2 x.1.2.2)
def evsOf (ars : List Arr) (ps : List Pt) : List Ev := (insM ps).map (evOf ars)
def okE (ars : List Arr) (x : InsM) : Bool := cellsOk ars x.2 x.1.2.2
theorem insU_next {ps : List Pt} {i : Nat} {p : Pt} (h : ps[i]? = some p) : insU ps (i + 1) = insU ps i ++ insP1 i p := by
 simp [insU, List.range_succ, List.getD_eq_getElem?_getD, h]
theorem visM_mem {vs : List (List Int)} {nb k : Nat} {v : List Int} : (v, k) ∈ visM vs nb ↔ v ∈ vs ∧ k < nb := by
 simp only [visM, List.mem_flatMap, List.mem_map, List.mem_range, Prod.mk.injEq]
 constructor
 ·rintro ⟨a, ha, b, hb, rfl, rfl⟩; exact ⟨ha, hb⟩
 ·rintro ⟨ha, hb⟩; exact ⟨v, ha, k, hb, rfl, rfl⟩
theorem visM_len (vs : List (List Int)) (nb : Nat) : (visM vs nb).length = vs.length * nb := by
 induction vs with
 | nil => simp [visM]
 | cons v vs ih =>
  have e : visM (v :: vs) nb = (List.range nb).map (fun k => (v, k)) ++ visM vs nb := by simp [visM]
  rw [e, List.length_append, ih, List.length_cons, Nat.add_mul]; simp; omega
theorem insP1_len (i : Nat) (p : Pt) : (insP1 i p).length = partN p := by
 unfold insP1 partN; rw [List.length_map, visM_len]
theorem insU_len {ps : List Pt} : ∀ {i : Nat}, i ≤ ps.length → (insU ps i).length = instN (ps.take i)
 | 0, _ => by simp [insU, instN]
 | i + 1, h => by
  obtain ⟨p, hp⟩ := get_some (xs := ps) (k := i) (by omega)
  rw [insU_next hp, List.length_append, insU_len (by omega), instN_take hp, insP1_len]
theorem insM_len (ps : List Pt) : (insM ps).length = instN ps := by
 unfold insM; rw [insU_len (Nat.le_refl _), List.take_of_length_le (Nat.le_refl _)]
theorem insP1_mem {i : Nat} {p : Pt} {y : InsM} : y ∈ insP1 i p ↔ y.1.1 = i ∧ y.1.2.2 ∈ nptsL p.1 ∧ p.2[y.1.2.1]? = some y.2 := by
 obtain ⟨⟨a, k, pt⟩, s⟩ := y
 simp only [insP1, List.mem_map, Prod.exists, Prod.mk.injEq]
 constructor
 ·rintro ⟨v, k', hm, ⟨rfl, rfl, rfl⟩, rfl⟩
  obtain ⟨h1, h2⟩ := visM_mem.1 hm
  exact ⟨rfl, h1, by rw [List.getD_eq_getElem?_getD]; obtain ⟨s, hs⟩ := get_some (xs := p.2) h2; rw [hs]; rfl⟩
 ·rintro ⟨rfl, h1, h2⟩
  exact ⟨pt, k, visM_mem.2 ⟨h1, (List.getElem?_eq_some_iff.1 h2).1⟩, ⟨rfl, rfl, rfl⟩, by rw [List.getD_eq_getElem?_getD, h2]; rfl⟩
theorem insU_mem {ps : List Pt} {y : InsM} : ∀ {i : Nat}, i ≤ ps.length → (y ∈ insU ps i ↔ ∃ p, y.1.1 < i ∧ ps[y.1.1]? = some p ∧ y.1.2.2 ∈ nptsL p.1 ∧ p.2[y.1.2.1]? = some y.2)
 | 0, _ => by simp [insU]
 | i + 1, h => by
  obtain ⟨p, hp⟩ := get_some (xs := ps) (k := i) (by omega)
  rw [insU_next hp, List.mem_append, insU_mem (by omega), insP1_mem]
  constructor
  ·rintro (⟨p', h1, h2, h3, h4⟩ | ⟨h1, h3, h4⟩)
   ·exact ⟨p', by omega, h2, h3, h4⟩
   ·exact ⟨p, by omega, by rw [h1]; exact hp, h3, h4⟩
  ·rintro ⟨p', h1, h2, h3, h4⟩
   by_cases e : y.1.1 = i
   ·rw [e, hp] at h2; cases h2; exact .inr ⟨e, h3, h4⟩
   ·exact .inl ⟨p', by omega, h2, h3, h4⟩
theorem insM_mem {ps : List Pt} {y : InsM} : y ∈ insM ps ↔ ∃ p, ps[y.1.1]? = some p ∧ y.1.2.2 ∈ nptsL p.1 ∧ p.2[y.1.2.1]? = some y.2 := by
 unfold insM
 rw [insU_mem (Nat.le_refl _)]
 constructor
 ·rintro ⟨p, _, h⟩; exact ⟨p, h⟩
 ·rintro ⟨p, h1, h⟩; exact ⟨p, (List.getElem?_eq_some_iff.1 h1).1, h1, h⟩
theorem partsS_mem {ps : List Pt} {p : Pt} (h : partsS ps = true) (hp : p ∈ ps) : nptsB p.1 = true ∧ (1 ≤ p.2.length ∧ p.2.length ≤ 4) ∧ (∀ pt ∈ nptsL p.1, ptB pt = true) ∧ ∀ s ∈ p.2, validB s.1 s.2.1 s.2.2 p.1.length = true := by
 simp only [partsS, Bool.and_eq_true, decide_eq_true_eq, List.all_eq_true] at h
 have h2 := h.2 p hp
 simp only [partS, Bool.and_eq_true, decide_eq_true_eq, List.all_eq_true] at h2
 exact ⟨h2.1, h2.2.1, h2.2.2.1, h2.2.2.2⟩
theorem progB_of {ars : List Arr} {ps : List Pt} (ha : arrsB ars = true) (hp : partsS ps = true) : progB ars ps = ((insM ps).all (okE ars) && decide ((insM ps).length ≤ 120)) := by
 have h4 : ps.length ≤ 4 := by simp only [partsS, Bool.and_eq_true, decide_eq_true_eq] at hp; exact hp.1
 have key : ps.all (partB ars) = (insM ps).all (okE ars) := by
  rw [Bool.eq_iff_iff, List.all_eq_true, List.all_eq_true]
  constructor
  ·intro h y hy
   obtain ⟨p, h1, h2, h3⟩ := insM_mem.1 hy
   have hb := h p (List.mem_of_getElem? h1)
   simp only [partB, Bool.and_eq_true, List.all_eq_true] at hb
   have hs := hb.2.2 y.2 (List.mem_of_getElem? h3)
   simp only [stOkB, Bool.and_eq_true, List.all_eq_true] at hs
   exact (hs.2 _ h2).1
  ·intro h p hpm
   obtain ⟨g1, g2, g3, g4⟩ := partsS_mem hp hpm
   obtain ⟨i, hi⟩ := List.getElem?_of_mem hpm
   simp only [partB, Bool.and_eq_true, List.all_eq_true, decide_eq_true_eq]
   refine ⟨g1, g2, fun s hs => ?_⟩
   obtain ⟨k, hk⟩ := List.getElem?_of_mem hs
   simp only [stOkB, Bool.and_eq_true, List.all_eq_true]
   exact ⟨g4 s hs, fun pt hpt => ⟨h ((i, k, pt), s) (insM_mem.2 ⟨p, hi, hpt, hk⟩), g3 pt hpt⟩⟩
 unfold progB
 rw [ha, key, insM_len, decide_eq_true h4]; simp
theorem progB_parts {ars : List Arr} {ps : List Pt} (h : partsS ps = false) : progB ars ps = false := by
 cases hb : progB ars ps with
 | false => rfl
 | true =>
  exfalso
  simp only [progB, Bool.and_eq_true, decide_eq_true_eq, List.all_eq_true] at hb
  have : partsS ps = true := by
   simp only [partsS, Bool.and_eq_true, decide_eq_true_eq, List.all_eq_true]
   refine ⟨hb.2.1, fun p hp => ?_⟩
   have h1 := hb.2.2.1 p hp
   simp only [partB, Bool.and_eq_true, List.all_eq_true, decide_eq_true_eq] at h1
   obtain ⟨g1, g2, g3⟩ := h1
   simp only [partS, Bool.and_eq_true, List.all_eq_true, decide_eq_true_eq]
   obtain ⟨s, hs⟩ := get_some (xs := p.2) (k := 0) (by omega)
   refine ⟨g1, g2, fun pt hpt => ?_, fun s hs => ?_⟩
   ·have h2 := g3 s (List.mem_of_getElem? hs)
    simp only [stOkB, Bool.and_eq_true, List.all_eq_true] at h2
    exact (h2.2 pt hpt).2
   ·have h2 := g3 s hs
    simp only [stOkB, Bool.and_eq_true, List.all_eq_true] at h2
    exact h2.1
  rw [h] at this; cases this
def unflat : List Value → List (Value × Value × Value)
 | a :: b :: c :: r => (a, b, c) :: unflat r
 | _ => []
theorem unflat_flat : ∀ {n : Nat} {vs : List Value}, vs.length = n * 3 → flat3 (unflat vs) = vs ∧ (unflat vs).length = n
 | 0, [], _ => ⟨rfl, rfl⟩
 | n + 1, a :: b :: c :: r, h => by
  obtain ⟨h1, h2⟩ := unflat_flat (n := n) (vs := r) (by simp at h; omega)
  refine ⟨?_, by simp [unflat, h2]⟩
  have e : flat3 (unflat (a :: b :: c :: r)) = [a, b, c] ++ flat3 (unflat r) := by simp [unflat, flat3]
  rw [e, h1]; rfl
 | 0, _ :: _, h => by simp at h
 | n + 1, [], h => by simp at h
 | n + 1, [_], h => by simp at h; omega
 | n + 1, [_, _], h => by simp at h; omega
def PtV (B : Nat) (w : World) (v : Value) (pt : List Int) : Prop := ∃ g c, v = .slice (some ⟨g, 0, none⟩) pt.length c ∧ IntsOwn B w v pt
theorem PtV.ext {B : Nat} {w w' : World} {v : Value} {pt : List Int} (h : PtV B w v pt) (hE : Ext w w') : PtV B w' v pt := by
 obtain ⟨g, c, e, h⟩ := h; exact ⟨g, c, e, h.ext hE⟩
theorem PtV.lt {B : Nat} {w : World} {v : Value} {pt : List Int} (h : PtV B w v pt) : ∀ b, v.ownBlock = some b → b < w.heap.size := by
 obtain ⟨g, c, e, h⟩ := h; intro b hb; exact (h.lt b hb).2
def InsR (B : Nat) (w : World) (x : In) (y : InsM) : Prop := x.1.1 = y.1.1 ∧ x.1.2.1 = y.1.2.1 ∧ PtV B w x.1.2.2 y.1.2.2 ∧ StmR B w x.2.1 x.2.2.1 x.2.2.2 y.2 ∧ ptB y.1.2.2 = true ∧ ∃ d, validB y.2.1 y.2.2.1 y.2.2.2 d = true
theorem PartV.mono {Z Z' : Nat → Prop} {w : World} {u0 u1 : Value} {p : PrtV} (h : PartV Z w u0 u1 p) (hZ : ∀ b, Z b → Z' b) : PartV Z' w u0 u1 p := by
 obtain ⟨q1, n1, c1, q2, n2, c2, B1, B2, e0, e1, h1, h2, h3, h4, h5, h6, h7, h8⟩ := h
 exact ⟨q1, n1, c1, q2, n2, c2, B1, B2, e0, e1, h1, h2, h3, h4, h5, h6, fun b hb => hZ b (h7 b hb), fun b hb => hZ b (h8 b hb)⟩
theorem range_all2 (n : Nat) : All2 (fun (a b : Nat) => a = b ∧ a < n) (List.range n) (List.range n) :=
 All2.of_get rfl (fun i x y hx hy => by
  have hlt : i < n := by have := (List.getElem?_eq_some_iff.1 hx).1; simpa using this
  rw [List.getElem?_range hlt] at hx hy
  cases hx; cases hy; exact ⟨rfl, hlt⟩)
theorem prts_of {B n : Nat} {w : World} {pv : Option Addr} {c : Nat} {ps : List Pt} (h : PartsOwn B w (.slice pv n c) ps) (hn : ps.length = n) (hS : partsS ps = true) :
  ∃ cs prts, w.ownsRow B 166 2 (.slice pv n c) n cs ∧ prts.length = n ∧
   (∀ i (p : PrtV), prts[i]? = some p → ∃ u0 u1, cs[i * 2]? = some u0 ∧ cs[i * 2 + 1]? = some u1 ∧ PartV (fun b => B ≤ b ∧ b < w.heap.size) w u0 u1 p) ∧ All2 (InsR B w) (insT prts n) (insM ps) := by
 obtain ⟨cs, ho, he⟩ := h
 rw [hn] at ho
 have key : ∀ (i : Nat) (x : Pt), ps[i]? = some x → ∃ p : PrtV, ∃ u0 u1, cs[i * 2]? = some u0 ∧ cs[i * 2 + 1]? = some u1 ∧ PartV (fun b => B ≤ b ∧ b < w.heap.size) w u0 u1 p ∧ p.2.length = x.2.length ∧
   All2 (fun v pt => PtV B w v pt ∧ ptB pt = true) p.1 (nptsL x.1) ∧ ∀ (k : Nat) (s : St), x.2[k]? = some s → ∃ u, p.2[k]? = some u ∧ StmR B w u.1 u.2.1 u.2.2 s ∧ ∃ d, validB s.1 s.2.1 s.2.2 d = true := fun i x hx => by
  obtain ⟨u0, u1, h0, h1, hp, hs⟩ := he i x hx
  obtain ⟨g1, g2, g3, g4⟩ := partsS_mem hS (List.mem_of_getElem? hx)
  obtain ⟨q1, c1, rfl⟩ := hp.form
  obtain ⟨q2, c2, rfl⟩ := hs.form
  obtain ⟨vs, ho1, he1⟩ := hp
  obtain ⟨ws, ho2, he2⟩ := hs
  have hvl : vs.length = (nptsL x.1).length := by have := ho1.1; simpa using this
  have hwl : ws.length = x.2.length * 3 := ho2.1
  obtain ⟨f1, f2⟩ := unflat_flat hwl
  have hget : ∀ (k : Nat) (s : St), x.2[k]? = some s → ∃ u0 u1 u2, (unflat ws)[k]? = some (u0, u1, u2) ∧ StmR B w u0 u1 u2 s := fun k s hk => by
   obtain ⟨t0, t1, t2, e0, e1, e2, hr⟩ := he2 k s hk
   have hlt : k < (unflat ws).length := by rw [f2]; exact (List.getElem?_eq_some_iff.1 hk).1
   obtain ⟨⟨a, b, d⟩, hu⟩ := get_some hlt
   obtain ⟨k0, k1, k2⟩ := flat3_get hu
   rw [f1] at k0 k1 k2
   rw [e0] at k0; rw [e1] at k1; rw [e2] at k2
   cases k0; cases k1; cases k2
   exact ⟨_, _, _, hu, hr⟩
  refine ⟨(vs, unflat ws), _, _, h0, h1, ⟨q1, _, c1, q2, _, c2, B, B, rfl, rfl, ho1, fun u hu => ?_, by rw [f1]; exact ho2, f2, by omega, fun u hu => ?_, fun b hb => ho1.lt b hb, fun b hb => ho2.lt b hb⟩, f2, ?_, fun k s hk => ?_⟩
  ·obtain ⟨j, hj⟩ := List.getElem?_of_mem hu
   obtain ⟨xs, hxs⟩ := get_some (xs := nptsL x.1) (k := j) (by rw [← hvl]; exact (List.getElem?_eq_some_iff.1 hj).1)
   obtain ⟨g, cc, e, _⟩ := he1 j xs hxs
   have hj' : vs[j]? = some u := hj
   rw [hj'] at e; cases e
   exact ⟨_, _, _, rfl⟩
  ·obtain ⟨k, hk⟩ := List.getElem?_of_mem hu
   have hlt : k < x.2.length := by rw [← f2]; exact (List.getElem?_eq_some_iff.1 hk).1
   obtain ⟨s, hs⟩ := get_some hlt
   obtain ⟨u0, u1, u2, e, hr⟩ := hget k s hs
   have hk' : (unflat ws)[k]? = some u := hk
   rw [hk'] at e; cases e
   obtain ⟨r0, _, r1, r2⟩ := hr
   obtain ⟨p3, c3, r1⟩ := r1.form
   obtain ⟨t3, x3, r2⟩ := r2.iface
   exact ⟨_, _, _, _, _, _, by rw [r0, r1, r2]⟩
  ·refine All2.of_get hvl (fun j v xs hv hxs => ?_)
   obtain ⟨g, cc, e, hi⟩ := he1 j xs hxs
   rw [hv] at e; cases e
   exact ⟨⟨g, cc, rfl, hi⟩, g3 xs (List.mem_of_getElem? hxs)⟩
  ·obtain ⟨u0, u1, u2, e, hr⟩ := hget k s hk
   exact ⟨_, e, hr, _, g4 s (List.mem_of_getElem? hk)⟩
 obtain ⟨prts, hl, hs⟩ := list_of key
 refine ⟨cs, prts, ho, by rw [hl, hn], fun i p hp => ?_, ?_⟩
 ·obtain ⟨x, hx⟩ := get_some (xs := ps) (k := i) (by rw [← hl]; exact (List.getElem?_eq_some_iff.1 hp).1)
  obtain ⟨p', hp', u0, u1, h0, h1, h2, _⟩ := hs i x hx
  rw [hp] at hp'; cases hp'
  exact ⟨u0, u1, h0, h1, h2⟩
 ·unfold insT insM insU
  rw [hn]
  refine (range_all2 n).flatMap (fun i j hij => ?_)
  obtain ⟨rfl, hlt⟩ := hij
  obtain ⟨x, hx⟩ := get_some (xs := ps) (k := i) (by rw [hn]; exact hlt)
  obtain ⟨p, hp, u0, u1, _, _, _, h3, h4, h5⟩ := hs i x hx
  rw [List.getD_eq_getElem?_getD, List.getD_eq_getElem?_getD, hp, hx]
  show All2 (InsR B w) (insP i p) (insP1 i x)
  unfold insP insP1 visL visM
  rw [h3]
  refine All2.map (S := fun (a : Value × Nat) (b : List Int × Nat) => (PtV B w a.1 b.1 ∧ ptB b.1 = true) ∧ a.2 = b.2 ∧ a.2 < x.2.length) ?_ (fun a b hab => ?_)
  ·refine h4.flatMap (fun v pt hv => ?_)
   exact (range_all2 x.2.length).map (fun a b hab => ⟨hv, hab.1, hab.2⟩)
  ·obtain ⟨⟨hv, hb⟩, e, hlt⟩ := hab
   obtain ⟨s, hs⟩ := get_some hlt
   obtain ⟨u, hu, hst, hd⟩ := h5 _ s hs
   unfold insF
   rw [← e, List.getD_eq_getElem?_getD, List.getD_eq_getElem?_getD, hu, hs]
   exact ⟨rfl, rfl, hv, hst, hb, hd⟩
def EvR (B : Nat) (w : World) (u0 u1 u2 u3 u4 : Value) (x : Ev) : Prop := u0 = .int .i64 (x.1.1 : Int) ∧ u1 = .int .i64 (x.1.2.1 : Int) ∧ PtV B w u2 x.1.2.2 ∧ IntsOwn B w u3 x.2.1 ∧ u4 = .int .i64 x.2.2
def EvsOwn (B : Nat) (w : World) (v : Value) (es : List Ev) : Prop :=
 ∃ vs, w.ownsRow B 124 5 v es.length vs ∧ ∀ (i : Nat) (x : Ev), es[i]? = some x → ∃ u0 u1 u2 u3 u4, vs[i * 5]? = some u0 ∧ vs[i * 5 + 1]? = some u1 ∧ vs[i * 5 + 2]? = some u2 ∧ vs[i * 5 + 3]? = some u3 ∧ vs[i * 5 + 4]? = some u4 ∧ EvR B w u0 u1 u2 u3 u4 x
def EvsL (row : List Nat) (C : Nat → Prop) (B : Nat) (w : World) (v : Value) (es : List Ev) : Prop :=
 ∃ vs, w.ownsRow B 124 5 v es.length vs ∧ (∀ b, v.ownBlock = some b → b ∈ row) ∧ ∀ (i : Nat) (x : Ev), es[i]? = some x → ∃ u0 u1 u2 u3 u4, vs[i * 5]? = some u0 ∧ vs[i * 5 + 1]? = some u1 ∧ vs[i * 5 + 2]? = some u2 ∧ vs[i * 5 + 3]? = some u3 ∧ vs[i * 5 + 4]? = some u4 ∧ EvR B w u0 u1 u2 u3 u4 x ∧ (∀ b, u3.ownBlock = some b → b ∈ row) ∧ ∀ b, u2.ownBlock = some b → C b
theorem EvsL.nil (row : List Nat) (C : Nat → Prop) (B : Nat) (w : World) : EvsL row C B w (.slice none 0 0) [] := ⟨[], World.ownsRow_nil w B _ _, fun b h => by simp [Value.ownBlock] at h, fun i x h => by simp at h⟩
theorem EvsL.own {row : List Nat} {C : Nat → Prop} {B : Nat} {w : World} {v : Value} {es : List Ev} (h : EvsL row C B w v es) : EvsOwn B w v es := by
 obtain ⟨vs, h1, -, h2⟩ := h
 exact ⟨vs, h1, fun i x hi => by obtain ⟨u0, u1, u2, u3, u4, a0, a1, a2, a3, a4, hr, -, -⟩ := h2 i x hi; exact ⟨u0, u1, u2, u3, u4, a0, a1, a2, a3, a4, hr⟩⟩
theorem EvR.lv {D : Nat → Prop} {B : Nat} {w w' : World} {u0 u1 u2 u3 u4 : Value} {x : Ev} (h : EvR B w u0 u1 u2 u3 u4 x) (hv : Lv D w w') (h2 : ∀ b, u2.ownBlock = some b → ¬ D b) (h3 : ∀ b, u3.ownBlock = some b → ¬ D b) : EvR B w' u0 u1 u2 u3 u4 x := by
 obtain ⟨e0, e1, ⟨g, c, e, hi⟩, hr, e4⟩ := h
 exact ⟨e0, e1, ⟨g, c, e, row_lv hi hv h2⟩, row_lv hr hv h3, e4⟩
theorem EvR.tag {B : Nat} {T : TypeId} {w w' : World} {u0 u1 u2 u3 u4 : Value} {x : Ev} {row : Option Nat} (h : EvR B w u0 u1 u2 u3 u4 x) (hg : w.grownBy w' row) (ht : Tag w row T) (hT : T ≠ 3) : EvR B w' u0 u1 u2 u3 u4 x := by
 obtain ⟨e0, e1, ⟨g, c, e, hi⟩, hr, e4⟩ := h
 exact ⟨e0, e1, ⟨g, c, e, hi.tag hg ht hT⟩, hr.tag hg ht hT, e4⟩
theorem EvsL.lv {D : Nat → Prop} {row : List Nat} {C : Nat → Prop} {B : Nat} {w w' : World} {v : Value} {es : List Ev} (h : EvsL row C B w v es) (hv : Lv D w w') (h1 : ∀ b ∈ row, ¬ D b) (h2 : ∀ b, C b → ¬ D b) : EvsL row C B w' v es := by
 obtain ⟨vs, ho, hb, he⟩ := h
 refine ⟨vs, row_lv ho hv (fun b e => h1 b (hb b e)), hb, fun i x hi => ?_⟩
 obtain ⟨u0, u1, u2, u3, u4, a0, a1, a2, a3, a4, hr, h3, h4⟩ := he i x hi
 exact ⟨u0, u1, u2, u3, u4, a0, a1, a2, a3, a4, hr.lv hv (fun b e => h2 b (h4 b e)) (fun b e => h1 b (h3 b e)), h3, h4⟩
theorem EvsL.push {row : List Nat} {C : Nat → Prop} {B n : Nat} {w w' : World} {v v' u0 u1 u2 u3 u4 : Value} {es : List Ev} {x : Ev} {vs : List Value} (hn : es.length = n)
  (he : ∀ (i : Nat) (x : Ev), es[i]? = some x → ∃ u0 u1 u2 u3 u4, vs[i * 5]? = some u0 ∧ vs[i * 5 + 1]? = some u1 ∧ vs[i * 5 + 2]? = some u2 ∧ vs[i * 5 + 3]? = some u3 ∧ vs[i * 5 + 4]? = some u4 ∧ EvR B w u0 u1 u2 u3 u4 x ∧ (∀ b, u3.ownBlock = some b → b ∈ row) ∧ ∀ b, u2.ownBlock = some b → C b)
  (hvl : vs.length = n * 5) (ho' : w'.ownsRow B 124 5 v' (n + 1) (vs ++ [u0, u1, u2, u3, u4])) (hg : w.grownBy w' v.ownBlock) (ht : Tag w v.ownBlock 124) (hx : EvR B w u0 u1 u2 u3 u4 x)
  (row' : List Nat) (hr1 : ∀ b ∈ row, b ∈ row') (hr2 : ∀ b, v'.ownBlock = some b → b ∈ row') (hr3 : ∀ b, u3.ownBlock = some b → b ∈ row') (hc : ∀ b, u2.ownBlock = some b → C b) : EvsL row' C B w' v' (es ++ [x]) := by
 refine ⟨vs ++ [u0, u1, u2, u3, u4], by rw [List.length_append, hn]; exact ho', hr2, fun i y hi => ?_⟩
 rcases Nat.lt_or_ge i es.length with hlt | hge
 ·rw [List.getElem?_append_left hlt] at hi
  obtain ⟨t0, t1, t2, t3, t4, h0, h1, h2, h3, h4, h5, h6, h7⟩ := he i y hi
  exact ⟨t0, t1, t2, t3, t4, by rw [List.getElem?_append_left (by omega)]; exact h0, by rw [List.getElem?_append_left (by omega)]; exact h1, by rw [List.getElem?_append_left (by omega)]; exact h2, by rw [List.getElem?_append_left (by omega)]; exact h3, by rw [List.getElem?_append_left (by omega)]; exact h4, h5.tag hg ht (by decide), fun b e => hr1 b (h6 b e), h7⟩
 ·rw [List.getElem?_append_right hge] at hi
  have hi0 : i - es.length = 0 := by
   rcases Nat.eq_zero_or_pos (i - es.length) with h | h
   ·exact h
   ·rw [List.getElem?_eq_none (by simp; omega)] at hi; cases hi
  rw [hi0] at hi
  simp at hi
  subst hi
  have hin : i = n := by omega
  subst hin
  refine ⟨u0, u1, u2, u3, u4, by rw [List.getElem?_append_right (by omega)]; simp [hvl], ?_, ?_, ?_, ?_, hx.tag hg ht (by decide), hr3, hc⟩
  ·rw [List.getElem?_append_right (by omega), hvl]; simp [show i * 5 + 1 - i * 5 = 1 by omega]
  ·rw [List.getElem?_append_right (by omega), hvl]; simp [show i * 5 + 2 - i * 5 = 2 by omega]
  ·rw [List.getElem?_append_right (by omega), hvl]; simp [show i * 5 + 3 - i * 5 = 3 by omega]
  ·rw [List.getElem?_append_right (by omega), hvl]; simp [show i * 5 + 4 - i * 5 = 4 by omega]
theorem EvsOwn.form {B : Nat} {w : World} {v : Value} {es : List Ev} (h : EvsOwn B w v es) : ∃ p c, v = .slice p es.length c := by
 obtain ⟨vs, ho, _⟩ := h
 rcases ho.2 with ⟨rfl, hn⟩ | ⟨g, cap, cur, rfl, _⟩
 ·exact ⟨none, 0, by rw [hn]⟩
 ·exact ⟨_, _, rfl⟩
theorem EvR.ext {B : Nat} {w w' : World} {u0 u1 u2 u3 u4 : Value} {x : Ev} (h : EvR B w u0 u1 u2 u3 u4 x) (hE : Ext w w') : EvR B w' u0 u1 u2 u3 u4 x := by
 obtain ⟨e0, e1, e2, hr, e4⟩ := h
 exact ⟨e0, e1, e2.ext hE, hr.ext hE, e4⟩
theorem EvsOwn.ext {B : Nat} {w w' : World} {v : Value} {es : List Ev} (h : EvsOwn B w v es) (hE : Ext w w') : EvsOwn B w' v es := by
 obtain ⟨vs, h1, h2⟩ := h
 exact ⟨vs, ownsRow_ext h1 hE, fun i x hi => by obtain ⟨u0, u1, u2, u3, u4, a0, a1, a2, a3, a4, hr⟩ := h2 i x hi; exact ⟨u0, u1, u2, u3, u4, a0, a1, a2, a3, a4, hr.ext hE⟩⟩
theorem EvsOwn.elem {B n c i : Nat} {w : World} {p : Option Addr} {es : List Ev} {x : Ev} (h : EvsOwn B w (.slice p n c) es) (hi : es[i]? = some x) :
  ∃ o g c1 r k, p = some ⟨o, 0, none⟩ ∧ o < w.heap.size ∧ w.cell? ⟨o, i * 5, none⟩ = some (.int .i64 (x.1.1 : Int)) ∧ w.cell? ⟨o, i * 5 + 1, none⟩ = some (.int .i64 (x.1.2.1 : Int)) ∧ w.cell? ⟨o, i * 5 + 2, none⟩ = some (.slice (some ⟨g, 0, none⟩) x.1.2.2.length c1) ∧ w.cell? ⟨o, i * 5 + 3, none⟩ = some (.slice r x.2.1.length k) ∧ w.cell? ⟨o, i * 5 + 4, none⟩ = some (.int .i64 x.2.2) ∧
   IntsOwn B w (.slice (some ⟨g, 0, none⟩) x.1.2.2.length c1) x.1.2.2 ∧ IntsOwn B w (.slice r x.2.1.length k) x.2.1 := by
 obtain ⟨vs, ho, he⟩ := h
 obtain ⟨u0, u1, u2, u3, u4, a0, a1, a2, a3, a4, rfl, rfl, ⟨g, c1, rfl, hp⟩, hr, rfl⟩ := he i x hi
 obtain ⟨r, k, rfl⟩ : ∃ r k, u3 = .slice r x.2.1.length k := by
  rcases hr.2 with ⟨rfl, hn⟩ | ⟨g, cap, cur, rfl, _⟩
  ·exact ⟨none, 0, by rw [hn]⟩
  ·exact ⟨_, _, rfl⟩
 have ho2 := ho.2
 rcases ho2 with ⟨e, h0⟩ | ⟨o, cap, cur, e, _, hg, _⟩
 ·have := (List.getElem?_eq_some_iff.1 hi).1; omega
 ·cases e
  have hc := World.ownsRow.cells ho (g := o) rfl
  have c0 := hc _ _ a0; have c1 := hc _ _ a1; have c2 := hc _ _ a2; have c3 := hc _ _ a3; have c4 := hc _ _ a4
  simp only [Addr.add_lit, Nat.zero_add] at c0 c1 c2 c3 c4
  exact ⟨o, g, _, r, k, rfl, lt_of_block hg, c0, c1, c2, c3, c4, hp, hr⟩
theorem row_lvB {B size n : Nat} {e : TypeId} {D : Nat → Prop} {w w' : World} {v : Value} {xs : List Value} (h : w.ownsRow B e size v n xs) (hv : Lv D w w') (hD : ∀ b, B ≤ b → b < w.heap.size → ¬ D b) : w'.ownsRow B e size v n xs :=
 row_lv h hv (fun b hb => hD b (h.lt b hb).1 (h.lt b hb).2)
theorem NdR.lvB {B : Nat} {D : Nat → Prop} {w w' : World} {v : Value} {e : Ex} (h : NdR B w v e) (hv : Lv D w w') (hD : ∀ b, B ≤ b → b < w.heap.size → ¬ D b) : NdR B w' v e := by
 induction h with
 | num n => exact .num n
 | idx a b c d k h => exact .idx a b c d k h
 | read arr s subs h => exact .read arr s subs ⟨row_lvB h.1 hv hD, h.2⟩
 | op kind x y ex ey hk _ _ ihx ihy => exact .op kind x y ex ey hk ihx ihy
theorem PartsOwn.lvB {B : Nat} {D : Nat → Prop} {w w' : World} {v : Value} {ps : List Pt} (h : PartsOwn B w v ps) (hv : Lv D w w') (hD : ∀ b, B ≤ b → b < w.heap.size → ¬ D b) : PartsOwn B w' v ps := by
 obtain ⟨cs, ho, he⟩ := h
 refine ⟨cs, row_lvB ho hv hD, fun i x hi => ?_⟩
 obtain ⟨u0, u1, h0, h1, ⟨vs, hp, hq⟩, ws, hs, ht⟩ := he i x hi
 refine ⟨u0, u1, h0, h1, ⟨vs, row_lvB hp hv hD, fun j xs hj => ?_⟩, ws, row_lvB hs hv hD, fun j s hj => ?_⟩
 ·obtain ⟨g, c, a, b⟩ := hq j xs hj
  exact ⟨g, c, a, row_lvB b hv hD⟩
 ·obtain ⟨t0, t1, t2, a, b, c, e0, e1, e2, e3⟩ := ht j s hj
  exact ⟨t0, t1, t2, a, b, c, e0, e1, ⟨row_lvB e2.1 hv hD, e2.2⟩, e3.lvB hv hD⟩
theorem PartsOwn.weak {B B' : Nat} {w : World} {v : Value} {ps : List Pt} (h : PartsOwn B w v ps) (hB : B' ≤ B) : PartsOwn B' w v ps := by
 obtain ⟨cs, ho, he⟩ := h
 exact ⟨cs, ownsRow_weak ho hB, fun i x hi => by obtain ⟨u0, u1, h0, h1, h2⟩ := he i x hi; exact ⟨u0, u1, h0, h1, h2.weak hB⟩⟩
theorem PartsOwn.ext {B : Nat} {w w' : World} {v : Value} {ps : List Pt} (h : PartsOwn B w v ps) (hE : Ext w w') : PartsOwn B w' v ps := by
 obtain ⟨cs, ho, he⟩ := h
 exact ⟨cs, ownsRow_ext ho hE, fun i x hi => by obtain ⟨u0, u1, h0, h1, h2⟩ := he i x hi; exact ⟨u0, u1, h0, h1, h2.ext hE⟩⟩
theorem ownsMap_lv {B n : Nat} {D : DataW Value} {DD : Nat → Prop} {w w' : World} (h : w.ownsMap Tryz.prog 9 rawE B n D) (hv : Lv DD w w') (hn : ¬ DD B) : w'.ownsMap Tryz.prog 9 rawE B n D := by
 obtain ⟨es, clock, hb, hf⟩ := h
 exact ⟨es, clock, hv.heap hb hn, hf⟩
theorem All2.mem {α β : Type} {R : α → β → Prop} {xs : List α} {ys : List β} (h : All2 R xs ys) {x : α} (hx : x ∈ xs) : ∃ y, R x y := by
 obtain ⟨i, hi⟩ := List.getElem?_of_mem hx
 obtain ⟨y, -, hr⟩ := h.get hi
 exact ⟨y, hr⟩
theorem InsR.shape {B : Nat} {w : World} {x : In} {y : InsM} (h : InsR B w x y) : ∃ g c a p n c1 t v, x.1.2.2 = .slice (some ⟨g, 0, none⟩) y.1.2.2.length c ∧ x.2 = (.string a, .slice p n c1, .iface t v) := by
 obtain ⟨-, -, ⟨g, c, e, -⟩, ⟨h0, -, h1, h2⟩, -⟩ := h
 obtain ⟨p, c1, h1⟩ := h1.form
 obtain ⟨t, v, h2⟩ := h2.iface
 obtain ⟨x1, u0, u1, u2⟩ := x
 dsimp only at *
 exact ⟨g, c, _, p, _, c1, t, v, e, by rw [h0, h1, h2]⟩
theorem event_ins (ars : List Arr) (D : DataW Value) (Bm B : Nat) (T : Int) (i j : Nat) (pp ps : Option Addr) (pn pc ns cs : Nat) (a : ByteArray) (tn : TypeId) (xn : Value) (y : InsM) (w0 w2 w : World)
  (ho : arrsB ars = true) (hE : Ext w0 w) (hMI : MapIs w0 D ars) (hM : w.ownsMap Tryz.prog 9 rawE Bm 4 D) (hR : InsR B w2 ((i, j, .slice pp pn pc), .string a, .slice ps ns cs, .iface tn xn) y) (hE2 : Ext w2 w) :
  Calls Tryz.prog 45 #[.agg #[.map (some Bm), .int .i64 T], .agg #[.int .i64 (i : Int), .int .i64 (j : Int), .slice pp pn pc], .agg #[.string a, .slice ps ns cs, .iface tn xn]] w fun e w' =>
   (∃ a1 a2 q1 n1 c1 q2 n2 c2 wv, e = .returned (.tuple #[.agg #[.int .i64 a1, .int .i64 a2, .slice q1 n1 c1, .slice q2 n2 c2, .int .i64 wv], .bool (okE ars y)]) ∧
    (okE ars y = true → a1 = (y.1.1 : Int) ∧ a2 = (y.1.2.1 : Int) ∧ Value.slice q1 n1 c1 = .slice pp pn pc ∧ wv = writeCell ars y.2 y.1.2.2 ∧ IntsOwn w.heap.size w' (.slice q2 n2 c2) (readCells ars y.2 y.1.2.2))) ∧ Ext w w' := by
 obtain ⟨h1, h2, ⟨g, c, hpe, hpi⟩, ⟨hs0, hsz, hsl, hnd⟩, hpb, d, hvb⟩ := hR
 dsimp only at h1 h2 hpe hpi hs0 hsl hnd
 obtain ⟨hacc, hshp, hcnt⟩ := valid_shape hvb
 obtain ⟨xs, hxl, hxm, hxe⟩ := hnd.list hshp
 have hlen : xs.length ≤ 1000 := by
  have h3 := reads_len 5 y.2.2.2
  rw [← hxm, List.length_map] at h3
  omega
 have hae : a = y.2.1 := by simpa using hs0
 subst hae
 have hsizes : ∀ x ∈ xs, x.2.1.size ≤ 9223372036854775807 := fun x hx => by
  have h4 := reads_ok 5 y.2.2.2 hshp x.2 (by rw [← hxm]; exact List.mem_map.2 ⟨x, hx, rfl⟩)
  simp only [accB, Bool.and_eq_true] at h4
  obtain ⟨b, hb, -⟩ := arr_byte h4.2.1
  rw [hb]; simp [ByteArray.size]
 have hbool : (xs.all (fun x => decide (0 ≤ cellI x.2.1 x.2.2 y.1.2.2 0 ars)) && decide (0 ≤ cellI y.2.1 y.2.2.1 y.1.2.2 0 ars)) = okE ars y := by
  unfold okE cellsOk readCells writeCell
  rw [← hxm, List.map_map, List.all_map]
  rfl
 have hreads : xs.map (fun x => cellI x.2.1 x.2.2 y.1.2.2 0 ars) = readCells ars y.2 y.1.2.2 := by
  unfold readCells
  rw [← hxm, List.map_map]
  rfl
 refine (event_any ars D Bm 4 B T i j pp ps pn pc ns cs y.1.2.2 y.2.1 y.2.2.1 _ xs w0 w ho hE hMI hM hsz (hsl.ext hE2) ((hpi.at).ext hE2) hpb hxl (fun x hx => ⟨by obtain ⟨p, n, c, e, h⟩ := hxe x hx; exact ⟨p, n, c, e, h.ext hE2⟩, hsizes x hx⟩) hlen).mono ?_
 rw [hbool, hreads]
 rintro e w' ⟨⟨a1, a2, q1, n1, c1, q2, n2, c2, wv, rfl, h⟩, hE'⟩
 exact ⟨⟨a1, a2, q1, n1, c1, q2, n2, c2, wv, rfl, fun hk => by obtain ⟨e1, e2, e3, e4, e5⟩ := h hk; exact ⟨by rw [e1, h1], by rw [e2, h2], e3, e4, e5⟩⟩, hE'⟩
end Go.Proofs.YtggpjapmhakklaaGreat
namespace Go.Proofs.YtggpjapmhakklaaGreat
open Go.Lib (hid)
open Go.RowKit Go.Maps
attribute [local go_sem] Oper.semAt_some
def PgR (B : Nat) (w0 w : World) (v : Value) (ars : List Arr) (ps : List Pt) : Prop := ∃ Bm D q1 c1 q2 c2, v = .agg #[.map (some Bm), .int .i64 (totN ars), .slice q1 ps.length c1, .slice q2 (evsOf ars ps).length c2] ∧ B ≤ Bm ∧ w.ownsMap Tryz.prog 9 rawE Bm 4 D ∧ MapIs w0 D ars ∧
 PartsOwn B w (.slice q1 ps.length c1) ps ∧ EvsOwn B w (.slice q2 (evsOf ars ps).length c2) (evsOf ars ps)
theorem blk4f {W : World} {g : Nat} {a b c d : Value} {t : TypeId} (h : W.heap[g]? = some (.cells #[a, b, c, d] t (0, 0))) : W.cell? ⟨g, 0, none⟩ = some a ∧ W.cell? ⟨g, 1, none⟩ = some b ∧ W.cell? ⟨g, 2, none⟩ = some c ∧ W.cell? ⟨g, 3, none⟩ = some d ∧ ∀ j, W.frozen? ⟨g, j, none⟩ = false := by
 simp [World.cell?, World.frozen?, h]
theorem blk4_set {W : World} {g : Nat} {a b c d a' b' c' d' : Value} {t : TypeId} (h : W.heap[g]? = some (.cells #[a, b, c, d] t (0, 0))) :
  ((((W.setCell ⟨g, 0, none⟩ a').setCell ⟨g, 1, none⟩ b').setCell ⟨g, 2, none⟩ c').setCell ⟨g, 3, none⟩ d').heap[g]? = some (.cells #[a', b', c', d'] t (0, 0)) := by
 have h1 := heap_setCell_same W g 0 _ t a' h
 have h2 := heap_setCell_same _ g 1 _ t b' h1
 have h3 := heap_setCell_same _ g 2 _ t c' h2
 have h4 := heap_setCell_same _ g 3 _ t d' h3
 simpa using h4
theorem blk4_set3 {W : World} {g : Nat} {a b c d u : Value} {t : TypeId} (h : W.heap[g]? = some (.cells #[a, b, c, d] t (0, 0))) : (W.setCell ⟨g, 3, none⟩ u).heap[g]? = some (.cells #[a, b, c, u] t (0, 0)) := by
 have h1 := heap_setCell_same W g 3 _ t u h
 simpa using h1
theorem lv_set4 (W : World) (g : Nat) (a b c d : Value) : Lv (fun k => k = g) W ((((W.setCell ⟨g, 0, none⟩ a).setCell ⟨g, 1, none⟩ b).setCell ⟨g, 2, none⟩ c).setCell ⟨g, 3, none⟩ d) :=
 (((lv_set W g 0 a).trans (lv_set _ g 1 b) (fun _ _ h => h) (fun _ _ h => h)).trans (lv_set _ g 2 c) (fun _ _ h => h) (fun _ _ h => h)).trans (lv_set _ g 3 d) (fun _ _ h => h) (fun _ _ h => h)
def PgI (W6 : World) (R1 R2 XB : Nat) (C : Nat → Prop) (B : Nat) (mv : Value) (T : Int) (vp : Value) (ars : List Arr) (ms : List InsM) (s : List In) (own : List Nat) (X : World) : Prop :=
 ∃ row p n c, own = R1 :: R2 :: XB :: row ∧ (∀ b ∈ row, W6.heap.size ≤ b) ∧ Lv (fun k => k = XB) W6 X ∧ X.heap[XB]? = some (.cells #[mv, .int .i64 T, vp, .slice p n c] 57 (0, 0)) ∧ s.length = n ∧ n ≤ 120 ∧
  EvsL row C B X (.slice p n c) ((ms.take n).map (evOf ars)) ∧ (ms.take n).length = n ∧ (ms.take n).all (okE ars) = true
def PgX (W6 : World) (R1 R2 XB : Nat) (bad : Prop) (cd : Code) (_ : List In) (_ : List Nat) (X : World) : Prop :=
 cd = .ret ∧ Lv (fun k => k = XB ∨ k = R1 ∨ k = R2) W6 X ∧ X.heap[R1]? = some (.cells #[.map none, .int .i64 0, .slice none 0 0, .slice none 0 0] 57 (0, 0)) ∧ X.heap[R2]? = some (.cells #[.bool false] 4 (0, 0)) ∧ R1 < W6.heap.size ∧ R2 < W6.heap.size ∧ bad
theorem PgI.stable (W6 : World) (R1 R2 XB : Nat) (C : Nat → Prop) (B : Nat) (mv : Value) (T : Int) (vp : Value) (ars : List Arr) (ms : List InsM) (hC : ∀ b, C b → b < W6.heap.size) : StableB W6.heap.size (PgI W6 R1 R2 XB C B mv T vp ars ms) := by
 rintro s own X X' ⟨row, p, n, c, rfl, h1, h2, h3, h4, h5, h6, h7, h8⟩ hv
 exact ⟨row, p, n, c, rfl, h1, h2.trans hv (fun _ _ h => h) (fun b hb h => by omega), hv.heap h3 (fun h => h.1 (by simp)), h4, h5, h6.lv hv (fun b hb h => h.1 (by simp [hb])) (fun b hb h => by have := hC b hb; omega), h7, h8⟩
theorem PgX.stable (W6 : World) (R1 R2 XB : Nat) (bad : Prop) (cd : Code) : StableB W6.heap.size (PgX W6 R1 R2 XB bad cd) := by
 rintro s own X X' ⟨rfl, h2, h3, h4, h5, h6, h7⟩ hv
 exact ⟨rfl, h2.trans hv (fun _ _ h => h) (fun b hb h => by omega), hv.heap h3 (fun h => by omega), hv.heap h4 (fun h => by omega), h5, h6, h7⟩
theorem infoEvent : (Tryz.prog.info? 124).map (fun i => (i.zero, i.size, i.bytes)) = some (some (.agg #[.int .i64 0, .int .i64 0, .slice none 0 0, .slice none 0 0, .int .i64 0]), 5, 72) := by kernel_rfl
theorem five_cells {L : Nat} {w : World} {u0 u1 u2 u3 u4 : Value} {t : TypeId} (hL : L = w.heap.size) : ∀ j u, [u0, u1, u2, u3, u4][j]? = some u → (w.alloc (.cells #[u0, u1, u2, u3, u4] t)).cell? ((⟨L, 0, none⟩ : Addr).add j) = some u := by
 subst hL
 intro q u hq
 match q, hq with
 | 0, hq => simp at hq; subst hq; simp [Addr.add]
 | 1, hq => simp at hq; subst hq; simp [Addr.add, go_sem]
 | 2, hq => simp at hq; subst hq; simp [Addr.add, go_sem]
 | 3, hq => simp at hq; subst hq; simp [Addr.add, go_sem]
 | 4, hq => simp at hq; subst hq; simp [Addr.add, go_sem]
theorem programOf_any (pa pp : Option Addr) (na ca np cp : Nat) (ars : List Arr) (ps : List Pt) (w : World) (hna : ars.length = na) (hnp : ps.length = np) (ha : ArrsAt w (.slice pa na ca) ars) (hp : PartsAt w (.slice pp np cp) ps) :
  Calls Tryz.prog 23 #[.agg #[.slice pa na ca, .slice pp np cp]] w fun e w' => (∃ v, e = .returned (.tuple #[v, .bool (progB ars ps)]) ∧ (progB ars ps = false → v = .agg #[.map none, .int .i64 0, .slice none 0 0, .slice none 0 0]) ∧ (progB ars ps = true → PgR w.heap.size w w' v ars ps)) ∧ Ext w w' := by
 have HNA := hid hna; have HNP := hid hnp; have HA := hid ha; have HP := hid hp
 clear hna hnp ha hp
 refine (callsIn_wide (n := 6)).1 ?_
 refine callsIn_of_wp_marks Tryz.func23 rfl trivial ?_ rfl
 simp only [Tryz.ntmps23, List.size_toArray, List.length_cons, List.length_nil, Nat.reduceAdd, Nat.reduceSub, Array.replicate_succ, Array.replicate_zero, List.push_toArray, List.append_toArray, List.nil_append, List.cons_append]
 have hdd : ∀ j : Nat, (Fence.wide.depth.isSome = true → 1 ≤ j) := fun j h => by cases h
 generalize hga : w.heap.size = ga at *
 have HGA := hid hga
 obtain ⟨ab, hab⟩ : ∃ ab, arrsB ars = ab := ⟨_, rfl⟩
 obtain ⟨pb, hpb⟩ : ∃ pb, partsS ps = pb := ⟨_, rfl⟩
 have HAB := hid hab; have HPB := hid hpb
 gi_wp2_with (fail)
 obtain ⟨W0, hW0⟩ : ∃ W0, (((w.alloc (.cells #[.slice pa na ca, .slice pp np cp] 32)).alloc (.cells #[.map none, .int .i64 0, .slice none 0 0, .slice none 0 0] 57)).alloc (.cells #[.bool false] 4)) = W0 := ⟨_, rfl⟩
 have E0 : Ext w W0 := by rw [← hW0]; exact (((Ext.refl w).alloc _).alloc _).alloc _
 have A0 : W0.heap[ga]? = some (.cells #[.slice pa na ca, .slice pp np cp] 32 (0, 0)) := by rw [← hW0]; exact blk_old (blk_old (blk_at HGA.out.symm))
 have A1 : W0.heap[ga + 1]? = some (.cells #[.map none, .int .i64 0, .slice none 0 0, .slice none 0 0] 57 (0, 0)) := by rw [← hW0]; exact blk_old (blk_at (by simp [HGA.out]))
 have A2 : W0.heap[ga + 1 + 1]? = some (.cells #[.bool false] 4 (0, 0)) := by rw [← hW0]; exact blk_at (by simp [HGA.out])
 have hs0 : W0.heap.size = ga + 3 := by rw [← hW0]; simp [HGA.out]
 rw [hW0]
 clear hW0
 refine ⟨trivial, ?_⟩
 refine (callsIn_wide.2 (layoutOf_any pa na ca ars w W0 HNA.out HA.out E0)).mono ?_
 rw [hab]
 rintro e w1 ⟨⟨mo, T, rfl, hlay⟩, hE1⟩
 have HLAY := hid hlay
 have E1 := hid (E0.trans hE1); have B0 := hid (hE1.blk A0); have B1 := hid (hE1.blk A1); have B2 := hid (hE1.blk A2)
 have HS1 : Hid (ga + 3 ≤ w1.heap.size) := hid (by have := hE1.size_le; omega)
 obtain ⟨y0, y1, -, -⟩ := blk2 B0.out
 have HS0 := hid hs0
 have HE01 := hid hE1
 have HE0 := hid E0
 clear E0 A0 A1 A2 hs0 hE1 hlay hab hpb
 have hl0 : ga < w1.heap.size := by have := HS1.out; omega
 gi_wp2_with (fail)
 obtain ⟨w1A, hw1A⟩ : ∃ W, w1.alloc (.cells #[.map mo, .int .i64 T] 53) = W := ⟨_, rfl⟩
 have E1A : Ext w1 w1A := by rw [← hw1A]; exact (Ext.refl w1).alloc _
 have BL : w1A.heap[w1.heap.size]? = some (.cells #[.map mo, .int .i64 T] 53 (0, 0)) := by rw [← hw1A]; exact blk_at rfl
 have hs1A : w1A.heap.size = w1.heap.size + 1 := by rw [← hw1A]; simp
 rw [hw1A]
 clear hw1A
 refine ⟨trivial, ?_⟩
 refine (callsIn_wide.2 (partsOf_any pp np cp ps w1A HNP.out (HP.out.ext (E1.out.trans E1A)))).mono ?_
 rw [HPB.out]
 rintro e w2 ⟨⟨q, k, d, rfl, hpo⟩, hE2⟩
 have X2 := E1A.trans hE2
 have E2 := hid (E1.out.trans X2); have C0 := hid (X2.blk B0.out); have C1 := hid (X2.blk B1.out); have C2 := hid (X2.blk B2.out); have CL := hid (hE2.blk BL)
 have HPARTS := hid hpo; have HX2 := hid X2; have HS1A := hid hs1A; have HE2 := hid hE2
 have HS2 : Hid (w1.heap.size + 1 ≤ w2.heap.size) := hid (by have := hE2.size_le; omega)
 clear E1A BL hs1A hE2 X2 hpo y0 y1 hl0
 by_cases hok : ab = true ∧ pb = true
 ·obtain ⟨rfl, rfl⟩ := hok
  obtain ⟨l0, l1, -, -⟩ := blk2 CL.out
  obtain ⟨hT, Bm, D, rfl, hBm, hom, hmi⟩ := HLAY.out rfl
  have HT := hid hT; have HBM := hid hBm; have HOM := hid hom; have HMI := hid hmi; have HPO := hid (HPARTS.out rfl)
  obtain ⟨kc, hkc⟩ : ∃ kc, k = ps.length ∧ kc = k := by
   obtain ⟨cs, h1, -⟩ := HPO.out
   refine ⟨k, ?_, rfl⟩
   rcases h1.2 with ⟨e, h0⟩ | ⟨g, cap, cur, e, _⟩
   ·simp only [Value.slice.injEq] at e; rw [h0]; exact e.2.1
   ·simp only [Value.slice.injEq] at e; exact e.2.1
  have HK := hid hkc.1
  clear hT hBm hom hmi hkc
  gi_wp2_with (fail)
  refine ⟨trivial, ?_⟩
  refine (callsIn_wide.2 (instances_call q k d _)).mono ?_
  rintro e w3 ⟨rfl, rfl⟩
  obtain ⟨W5, hW5⟩ : ∃ W5, w2.alloc (.cells #[.map (some Bm), .int .i64 T, .slice q k d, .slice none 0 0] 57) = W5 := ⟨_, rfl⟩
  have hs5 : W5.heap.size = w2.heap.size + 1 := by rw [← hW5]; simp
  have E5 : Ext w2 W5 := by rw [← hW5]; exact (Ext.refl w2).alloc _
  have B5 : W5.heap[w2.heap.size]? = some (.cells #[.map (some Bm), .int .i64 T, .slice q k d, .slice none 0 0] 57 (0, 0)) := by rw [← hW5]; exact blk_at rfl
  rw [hW5]
  obtain ⟨W6, hW6⟩ : ∃ W6, W5.alloc (.cells #[.slice q k d] 54) = W6 := ⟨_, rfl⟩
  have hs6 : W6.heap.size = w2.heap.size + 2 := by rw [← hW6]; simp [hs5]
  have E56 : Ext W5 W6 := by rw [← hW6]; exact (Ext.refl W5).alloc _
  have E6 := hid (E5.trans E56)
  have K1 := hid (E6.out.blk C1.out); have K2 := hid (E6.out.blk C2.out); have KL := hid (E6.out.blk CL.out)
  have KX := hid (E56.blk B5)
  have KP : Hid (W6.heap[w2.heap.size + 1]? = some (.cells #[.slice q k d] 54 (0, 0))) := hid (by rw [← hW6]; exact blk_at hs5.symm)
  simp only [hs5]
  rw [hW6]
  have HS6 := hid hs6
  clear hW5 hW6 hs5 hs6 E5 B5 E56 l0 l1
  gi_wp2_with (fail)
  have hs6 := HS6.out; have hs2 := HS2.out; have hs1a := HS1A.out; have hs1 := HS1.out
  obtain ⟨cs, prts, hrow, hplen, hprt, hall⟩ := prts_of HPO.out HK.out.symm HPB.out
  have HALL := hid hall
  have hZ : ∀ b, ((w1A.heap.size ≤ b ∧ b < w2.heap.size) ∨ b = w2.heap.size + 1) → b < W6.heap.size := fun b h => by omega
  refine wpIn_rangeFunc_baseA (w := W6) rfl (hdd _) (gf := 75) (lb := #[.pointer (some ⟨w2.heap.size + 1, 0, none⟩)]) rfl trivial (enters_of Tryz.func75 (by kernel_rfl) rfl)
   W6.heap.size (Nat.le_refl _) (instances_seqB W6.heap.size _ _ (w2.heap.size + 1) w1A.heap.size q k d cs prts (fun b => (w1A.heap.size ≤ b ∧ b < w2.heap.size) ∨ b = w2.heap.size + 1) W6 (ownsRow_ext hrow E6.out) hplen
    (fun i p h => by obtain ⟨u0, u1, g0, g1, g2⟩ := hprt i p h; exact ⟨u0, u1, g0, g1, (g2.mono (fun b hb => .inl hb)).lv (E6.out.lv (D := fun _ => False)) (fun _ _ h => h)⟩) KP.out (Nat.le_refl _) hZ (.inr rfl) (fun b hb => .inl (hrow.lt b hb)))
   hZ (fun b h => h.elim) (fun x W1 W2 h _ => h) (fun W1 W2 _ _ => trivial) (fun _ => rfl)
   (PgI W6 (ga + 1) (ga + 1 + 1) w2.heap.size (fun b => w1A.heap.size ≤ b ∧ b < w2.heap.size) ga (.map (some Bm)) T (.slice q k d) ars (insM ps)) (PgX W6 (ga + 1) (ga + 1 + 1) w2.heap.size (progB ars ps = false)) (PgI.stable _ _ _ _ _ _ _ _ _ _ _ (fun b h => by omega)) (fun cd => PgX.stable _ _ _ _ _ cd) [ga + 1, ga + 1 + 1, w2.heap.size]
   (fun b hb => ⟨by simp at hb; omega, fun h => by simp at hb; omega⟩) ⟨[], none, 0, 0, rfl, by simp, Lv.refl _ _, KX.out, rfl, by omega, by simpa using EvsL.nil _ _ _ _, by simp, by simp⟩
   (fun (x : In) (a' : Act) (X : World) => ∃ gI gS p1 n1 c1 a1 p2 n2 c2 t2 v2, x.1.2.2 = .slice p1 n1 c1 ∧ x.2 = (.string a1, .slice p2 n2 c2, .iface t2 v2) ∧ X.heap[gI]? = some (.cells #[.int .i64 (x.1.1 : Int), .int .i64 (x.1.2.1 : Int), .slice p1 n1 c1] 105 (0, 0)) ∧ X.heap[gS]? = some (.cells #[.string a1, .slice p2 n2 c2, .iface t2 v2] 122 (0, 0)) ∧
    a' = { tmps := #[.agg #[.slice pa na ca, .slice pp np cp], .pointer (some ⟨ga, 0, none⟩), .pointer (some ⟨ga + 1, 0, none⟩), .pointer (some ⟨ga + 1 + 1, 0, none⟩), .pointer (some ⟨w1.heap.size, 0, none⟩), .bool true, .slice q k d, .bool true, .pointer (some ⟨w2.heap.size, 0, none⟩), .pointer (some ⟨gI, 0, none⟩), .pointer (some ⟨gS, 0, none⟩), undef, undef, .tuple #[.agg #[.map (some Bm), .int .i64 T], .bool true], .pointer (some ⟨ga, 0, none⟩), .slice pa na ca, .tuple #[.agg #[.map (some Bm), .int .i64 T], .bool true], .agg #[.map (some Bm), .int .i64 T], .bool true, .tuple #[.slice q k d, .bool true], .pointer (some ⟨ga, 1, none⟩), .slice pp np cp, .tuple #[.slice q k d, .bool true], .slice q k d, .bool true, .bool true, .bool false, .bool false, .bool true, .bool false, .bool false, undef, .agg #[.map (some Bm), .int .i64 T], .slice q k d, .agg #[.map (some Bm), .int .i64 T, .slice q k d, .slice none 0 0], .slice q k d, .func (.func 75) #[] #[.pointer (some ⟨w2.heap.size + 1, 0, none⟩)], .agg #[.int .i64 (x.1.1 : Int), .int .i64 (x.1.2.1 : Int), .slice p1 n1 c1], .agg #[.string a1, .slice p2 n2 c2, .iface t2 v2], undef, undef, undef, undef, undef, undef, undef, undef, undef, undef, undef, undef, undef, undef, undef, undef, undef, undef, undef, undef, undef, undef, undef], defers := [] })
   ?ast ?assign ?body ?done ?stop
  case ast =>
   rintro x a' W W' l o ⟨gI, gS, p1, n1, c1, a1, p2, n2, c2, t2, v2, h1, h2, h3, h4, h5⟩ ho hv
   exact ⟨gI, gS, p1, n1, c1, a1, p2, n2, c2, t2, v2, h1, h2, hv.heap h3 (fun e => by subst e; rw [h3] at ho; cases ho), hv.heap h4 (fun e => by subst e; rw [h4] at ho; cases ho), h5⟩
  case assign =>
   intro l2 y X K hy hK
   obtain ⟨ym, hr⟩ := HALL.out.mem (x := y) (by rw [← hplen] at hy ⊢; exact hy)
   obtain ⟨g, c, a1, p2, n2, c2, t2, v2, e1, e2⟩ := hr.shape
   obtain ⟨⟨i0, k0, pv⟩, st⟩ := y
   dsimp only at e1 e2
   subst e1 e2
   clear hr hy
   dsimp only [encI]
   gi_wp2
   exact hK _ _ ((Lv.alloc _ X _).trans (Lv.alloc (fun _ => False) _ _) (fun _ _ h => h) (fun _ _ h => h)) ⟨X.heap.size, X.heap.size + 1, _, _, _, _, _, _, _, _, _, rfl, rfl, blk_old (blk_at rfl), blk_at (by simp), rfl⟩
  case body =>
   rintro l2 pre0 x ow a' X ⟨row, p, n, c, rfl, hrow6, hLV, hXB, hn, hn120, hev, hml, hok⟩ hpx hrx hob ⟨gI, gS, p1, n1, c1, a1, p2, n2, c2, t2, v2, e1, e2, hgI, hgS, rfl⟩
   obtain ⟨y, hy, hR⟩ := HALL.out.get (pre_get hpx)
   rw [hn] at hy
   obtain ⟨⟨i0, k0, pv⟩, st⟩ := x
   dsimp only at e1 e2 hgI hgS
   subst e1 e2
   have EX := hid (hLV.ext0 (E2.out.trans E6.out) (fun b hb h => by rw [HGA.out] at hb; omega))
   have E2X := hid (hLV.ext0 E6.out (fun b hb h => by omega))
   have X1 := hid (hLV.heap K1.out (by omega)); have X2 := hid (hLV.heap K2.out (by omega)); have XL := hid (hLV.heap KL.out (by omega))
   have XX := hid hXB; have XI := hid hgI; have XS := hid hgS
   have HY := hid hy; have HR := hid hR; have HROW := hid hrow6; have HLV := hid hLV; have HN := hid hn; have HEV := hid hev; have HML := hid hml; have HOK := hid hok
   have HLX : Hid (∀ b ∈ (ga + 1) :: (ga + 1 + 1) :: w2.heap.size :: row, b < X.heap.size) := hid (fun b hb => (hob b hb).1)
   have hx6 := hLV.size
   have HX6 := hid hx6
   obtain ⟨l0, l1, -, -⟩ := blk2 XL.out
   obtain ⟨i0', i1', i2'⟩ := blk3 XI.out
   obtain ⟨t0', t1', t2'⟩ := blk3 XS.out
   have hcall := event_ins ars D Bm w1A.heap.size T i0 k0 p1 p2 n1 c1 n2 c2 a1 t2 v2 y w w2 X HAB.out EX.out HMI.out (HOM.out.kept ((HX2.out.trans E2X.out).grownBy none) (by simp)) HR.out E2X.out
   obtain ⟨oy, hoy⟩ : ∃ oy, okE ars y = oy := ⟨_, rfl⟩
   rw [hoy] at hcall
   have HOY := hid hoy
   have HCALL := hid hcall
   clear hLV hXB hgI hgS hy hR hrow6 hn hev hml hok hob hpx hrx hcall hoy hrow hprt hall hZ
   gi_wp2_with (fail)
   refine ⟨trivial, ?_⟩
   refine CallsIn.mono (F := Fence.wide.inRound l2) (callsIn_wide.2 HCALL.out) ?_
   rintro e w3 ⟨⟨z1, z2, q3, n3, c3, q4, n4, c4, wv, rfl, hval⟩, h3⟩
   have HVAL := hid hval
   have HX3 := hid h3
   have Y1 := hid (h3.blk X1.out); have Y2 := hid (h3.blk X2.out); have YX := hid (h3.blk XX.out)
   have hs3 := h3.size_le
   have hl1 : ga + 1 < w3.heap.size := lt_of_block Y1.out
   have hl2 : ga + 1 + 1 < w3.heap.size := lt_of_block Y2.out
   have hlX : w2.heap.size < w3.heap.size := lt_of_block YX.out
   clear h3 hval l0 l1 i0' i1' i2' t0' t1' t2'
   cases oy with
   | false =>
    have HBAD : Hid (progB ars ps = false) := hid (by
     rw [progB_of HAB.out HPB.out, all_false_of (p := okE ars) HY.out HOY.out]; rfl)
    obtain ⟨y0, y1, y2, y3, yf⟩ := blk4f Y1.out
    obtain ⟨z0, zf⟩ := blk1 Y2.out
    gi_wp2
    have hz := blk4_set (a' := .map none) (b' := .int .i64 0) (c' := .slice none 0 0) (d' := .slice none 0 0) Y1.out
    have hv := lv_set4 w3 (ga + 1) (.map none) (.int .i64 0) (.slice none 0 0) (.slice none 0 0)
    generalize ((((w3.setCell ⟨ga + 1, 0, none⟩ (.map none)).setCell ⟨ga + 1, 1, none⟩ (.int .i64 0)).setCell ⟨ga + 1, 2, none⟩ (.slice none 0 0)).setCell ⟨ga + 1, 3, none⟩ (.slice none 0 0)) = w4 at *
    have hv2 := (hv.trans (lv_set w4 (ga + 1 + 1) 0 (.bool false)) (E := fun k => k = ga + 1 ∨ k = ga + 1 + 1) (fun _ _ h => .inl h) (fun _ _ h => .inr h)).trans (Lv.alloc (fun _ => False) _ (.cells #[.int .i64 z1, .int .i64 z2, .slice q3 n3 c3, .slice q4 n4 c4, .int .i64 wv] 124)) (E := fun k => k = ga + 1 ∨ k = ga + 1 + 1) (fun _ _ h => h) (fun _ _ h => h.elim)
    have hv3 := (HX3.out.lv (D := fun _ => False)).trans hv2 (E := fun k => k = ga + 1 ∨ k = ga + 1 + 1) (fun _ _ h => h.elim) (fun _ _ h => h)
    exact ⟨_, Grew.same (hv3.mono (fun b _ h => by rcases h with rfl | rfl <;> simp)) HLX.out, rfl, HLV.out.trans hv3 (fun _ _ h => .inl h) (fun _ _ h => .inr h), blk_old (blk_off hz (by omega) _), blk_old (blk1_set (hv.heap Y2.out (by omega))), by omega, by omega, HBAD.out⟩
   | true =>
    obtain ⟨x0, x1, x2, x3, xf⟩ := blk4f YX.out
    by_cases hn1 : n = 120
    ·have hq : ((n : Int) == 120) = true := by simp; omega
     have HBAD : Hid (progB ars ps = false) := hid (by
      have hl := (List.getElem?_eq_some_iff.1 HY.out).1
      rw [progB_of HAB.out HPB.out, decide_eq_false (by omega), Bool.and_false])
     obtain ⟨y0, y1, y2, y3, yf⟩ := blk4f Y1.out
     obtain ⟨z0, zf⟩ := blk1 Y2.out
     clear hn1
     gi_wp2
     have hz := blk4_set (a' := .map none) (b' := .int .i64 0) (c' := .slice none 0 0) (d' := .slice none 0 0) Y1.out
     have hv := lv_set4 w3 (ga + 1) (.map none) (.int .i64 0) (.slice none 0 0) (.slice none 0 0)
     generalize ((((w3.setCell ⟨ga + 1, 0, none⟩ (.map none)).setCell ⟨ga + 1, 1, none⟩ (.int .i64 0)).setCell ⟨ga + 1, 2, none⟩ (.slice none 0 0)).setCell ⟨ga + 1, 3, none⟩ (.slice none 0 0)) = w4 at *
     have hv2 := (hv.trans (lv_set w4 (ga + 1 + 1) 0 (.bool false)) (E := fun k => k = ga + 1 ∨ k = ga + 1 + 1) (fun _ _ h => .inl h) (fun _ _ h => .inr h)).trans (Lv.alloc (fun _ => False) _ (.cells #[.int .i64 z1, .int .i64 z2, .slice q3 n3 c3, .slice q4 n4 c4, .int .i64 wv] 124)) (E := fun k => k = ga + 1 ∨ k = ga + 1 + 1) (fun _ _ h => h) (fun _ _ h => h.elim)
     have hv3 := (HX3.out.lv (D := fun _ => False)).trans hv2 (E := fun k => k = ga + 1 ∨ k = ga + 1 + 1) (fun _ _ h => h.elim) (fun _ _ h => h)
     exact ⟨_, Grew.same (hv3.mono (fun b _ h => by rcases h with rfl | rfl <;> simp)) HLX.out, rfl, HLV.out.trans hv3 (fun _ _ h => .inl h) (fun _ _ h => .inr h), blk_old (blk_off hz (by omega) _), blk_old (blk1_set (hv.heap Y2.out (by omega))), by omega, by omega, HBAD.out⟩
    ·have hq : ((n : Int) == 120) = false := by simp; omega
     have hnl : n < 120 := by omega
     obtain ⟨ez1, ez2, ez3, ez4, hrd⟩ := HVAL.out rfl
     simp only [Value.slice.injEq] at ez3
     obtain ⟨rfl, rfl, rfl⟩ := ez3
     obtain ⟨hi1, hi2, hpv, -, -, -⟩ := HR.out
     dsimp only at hi1 hi2 hpv
     have HRD := hid hrd; have HPV := hid hpv
     have HZ1 : Hid (z1 = (y.1.1 : Int)) := hid ez1; have HZ2 : Hid (z2 = (y.1.2.1 : Int)) := hid ez2; have HZ4 := hid ez4
     obtain ⟨i9, hi9, hz0, hz1, hz2⟩ := info_parts infoEvent
     obtain ⟨vs, ho, hvb, he⟩ := HEV.out
     have hel : (((insM ps).take n).map (evOf ars)).length = n := by rw [List.length_map, HML.out]
     rw [hel] at ho
     have hvl := ho.1
     have HO3 := hid (ownsRow_ext ho HX3.out)
     have HE9 := hid he; have HVB := hid hvb
     have hltrow : ∀ b, (Value.slice p n c).ownBlock = some b → W6.heap.size ≤ b := fun b hb => HROW.out b (hvb b hb)
     have HLT := hid hltrow
     clear hn1 ez1 ez2 ez4 hrd hpv hi1 hi2 ho he hvb hltrow hel HVAL
     gi_wp2_with (first | (gi_at_builtin; refine wpListIn_append_own_at _ rfl (.tmp 56) (.tmp 58) 55 rfl ga 124 i9 (.agg #[.int .i64 0, .int .i64 0, .slice none 0 0, .slice none 0 0, .int .i64 0]) 5 72 Tryz.underlying55 hi9 hz0 hz1 hz2 rfl (by decide) (.slice p n c) n vs rfl ((HO3.out.alloc (.cells #[.int .i64 z1, .int .i64 z2, .slice q3 n3 c3, .slice q4 n4 c4, .int .i64 wv] 124)).alloc (.cells #[.int .i64 z1, .int .i64 z2, .slice q3 n3 c3, .slice q4 n4 c4, .int .i64 wv] 124)) ⟨w3.heap.size + 1, 0, none⟩ 1 1 [.int .i64 z1, .int .i64 z2, .slice q3 n3 c3, .slice q4 n4 c4, .int .i64 wv] rfl rfl (five_cells (by simp)) (by intro u hu; simp at hu; rcases hu with rfl | rfl | rfl | rfl | rfl <;> rfl) (by unfold maxLen; omega) (by omega) (by simp; omega) ?_; intro v' w4 hown4 hgr4 hnil4 hat4; obtain ⟨gq, dq, rfl, hdq⟩ := own_form' hown4 (fun e => by have := (hnil4.1 e).2; omega); have HB4 := grownBy_blk hgr4 (blk_old (o := .cells #[.int .i64 z1, .int .i64 z2, .slice q3 n3 c3, .slice q4 n4 c4, .int .i64 wv] 124) (blk_old (o := .cells #[.int .i64 z1, .int .i64 z2, .slice q3 n3 c3, .slice q4 n4 c4, .int .i64 wv] 124) YX.out)) (fun e => by have h1 := HLT.out _ e.symm; omega); have yf4 := (blk4f HB4).2.2.2.2; have y34 := (blk4f HB4).2.2.2.1) | fail)
     obtain ⟨wA, hwA⟩ : ∃ wA, ((w3.alloc (.cells #[.int .i64 z1, .int .i64 z2, .slice q3 n3 c3, .slice q4 n4 c4, .int .i64 wv] 124)).alloc (.cells #[.int .i64 z1, .int .i64 z2, .slice q3 n3 c3, .slice q4 n4 c4, .int .i64 wv] 124)) = wA := ⟨_, rfl⟩
     have hXA : Ext X wA := by rw [← hwA]; exact (HX3.out.alloc _).alloc _
     have h3A : Ext w3 wA := by rw [← hwA]; exact ((Ext.refl w3).alloc _).alloc _
     have hsA : wA.heap.size = w3.heap.size + 2 := by rw [← hwA]; simp
     have HOA : wA.ownsRow ga 124 5 (.slice p n c) n vs := by rw [← hwA]; exact (HO3.out.alloc _).alloc _
     rw [hwA] at hgr4 hat4
     have htag := own_tag HOA
     have hrdX : ∀ b, (Value.slice q4 n4 c4).ownBlock = some b → X.heap.size ≤ b ∧ b < w3.heap.size := fun b hb => HRD.out.lt b hb
     have hl34 : Lv (fun k => (Value.slice p n c).ownBlock = some k) wA w4 := Lv.grown hgr4 (fun r e _ => e)
     have hX4 : Lv (fun k => k ∈ row) X w4 := hXA.lv.trans hl34 (D := fun _ => False) (fun _ _ h => h.elim) (fun b _ h => HVB.out b h)
     have hsz4 := hgr4.size
     have GQ : gq ∈ row ∨ X.heap.size ≤ gq := by
      rcases hat4 with h | h
      ·exact .inl (HVB.out gq h.symm)
      ·simp only [Value.ownBlock, Option.some.injEq] at h; exact .inr (by omega)
     have hgl := (hown4.lt gq rfl).2
     have hgW : W6.heap.size ≤ gq := by
      rcases GQ with h | h
      ·exact HROW.out gq h
      ·omega
     have hset := lv_set w4 w2.heap.size 3 (.slice (some ⟨gq, 0, none⟩) (n + 1) dq)
     have hL5 : Lv (fun k => k ∈ (ga + 1) :: (ga + 1 + 1) :: w2.heap.size :: row) X (w4.setCell ⟨w2.heap.size, 3, none⟩ (.slice (some ⟨gq, 0, none⟩) (n + 1) dq)) := hX4.trans hset (fun b _ h => by simp [h]) (fun b _ h => by simp [h])
     have htk : (insM ps).take (n + 1) = (insM ps).take n ++ [y] := take_next HY.out
     have hpush : EvsL (row ++ (gq :: (Value.slice q4 n4 c4).ownBlock.toList)) (fun b => w1A.heap.size ≤ b ∧ b < w2.heap.size) ga w4 (.slice (some ⟨gq, 0, none⟩) (n + 1) dq) (((insM ps).take (n + 1)).map (evOf ars)) := by
      rw [htk, List.map_append]
      refine EvsL.push (row := row) (by rw [List.length_map, HML.out]) (fun i x hi => ?_) hvl hown4 hgr4 htag (show EvR ga wA (.int .i64 z1) (.int .i64 z2) (.slice q3 n3 c3) (.slice q4 n4 c4) (.int .i64 wv) (evOf ars y) from ⟨by rw [HZ1.out]; rfl, by rw [HZ2.out]; rfl, ?_, ?_, by rw [HZ4.out]; rfl⟩)
       (row ++ (gq :: (Value.slice q4 n4 c4).ownBlock.toList)) (fun b hb => by simp [hb]) (fun b hb => by simp [Value.ownBlock] at hb; subst hb; simp) (fun b hb => by simp only [List.mem_append, List.mem_cons, Option.mem_toList]; exact .inr (.inr hb)) (fun b hb => ?_)
      ·obtain ⟨t0, t1, t2, t3, t4, g0, g1, g2, g3, g4, g5, g6, g7⟩ := HE9.out i x hi
       exact ⟨t0, t1, t2, t3, t4, g0, g1, g2, g3, g4, g5.ext hXA, g6, g7⟩
      ·obtain ⟨g, cc, e, h⟩ := HPV.out
       exact ⟨g, cc, e, (IntsOwn.weak (h.ext (E2X.out.trans hXA)) (by omega))⟩
      ·exact IntsOwn.weak (HRD.out.ext h3A) (by omega)
      ·obtain ⟨g, cc, e, h⟩ := HPV.out
       exact h.lt b hb
     refine ⟨(ga + 1) :: (ga + 1 + 1) :: w2.heap.size :: (row ++ (gq :: (Value.slice q4 n4 c4).ownBlock.toList)), ⟨hL5, fun b hb => ?_⟩, row ++ (gq :: (Value.slice q4 n4 c4).ownBlock.toList), some ⟨gq, 0, none⟩, n + 1, dq, rfl, fun b hb => ?_, ?_, blk4_set3 HB4, by simp [HN.out], by omega, hpush.lv hset (fun b hb => ?_) (fun b hb => by omega), by rw [htk, List.length_append, HML.out]; rfl, by rw [htk, List.all_append, HOK.out]; simp [HOY.out]⟩
     ·have hlx := HLX.out
      simp only [World.size_setCell, List.mem_cons, List.mem_append, Option.mem_toList] at hb hlx ⊢
      rcases hb with hb | hb | hb | hb | hb | hb
      ·exact ⟨.inl (.inl hb), by have := hlx b (.inl hb); omega⟩
      ·exact ⟨.inl (.inr (.inl hb)), by have := hlx b (.inr (.inl hb)); omega⟩
      ·exact ⟨.inl (.inr (.inr (.inl hb))), by have := hlx b (.inr (.inr (.inl hb))); omega⟩
      ·exact ⟨.inl (.inr (.inr (.inr hb))), by have := hlx b (.inr (.inr (.inr hb))); omega⟩
      ·subst hb
       rcases GQ with h | h
       ·exact ⟨.inl (.inr (.inr (.inr h))), hgl⟩
       ·exact ⟨.inr h, hgl⟩
      ·have h9 := hrdX b hb
       exact ⟨.inr h9.1, by omega⟩
     ·simp only [List.mem_append, List.mem_cons, Option.mem_toList] at hb
      rcases hb with hb | hb | hb
      ·exact HROW.out b hb
      ·omega
      ·have := hrdX b hb; omega
     ·exact (HLV.out.trans hX4 (E := fun k => k = w2.heap.size) (fun _ _ h => h) (fun b hb h => by have := HROW.out b h; omega)).trans hset (fun _ _ h => h) (fun _ _ h => h)
     ·simp only [List.mem_append, List.mem_cons, Option.mem_toList] at hb
      rcases hb with hb | hb | hb
      ·have := HROW.out b hb; omega
      ·omega
      ·have := hrdX b hb; omega
  case done =>
   rintro E ow X hE6 hEn ⟨row, p, n, c, rfl, hrow6, hLV, hXB, hn, hn120, hev, hml, hok⟩ hob hv6 hz hdf
   have hlen : (insM ps).length = n := by rw [← hn]; exact HALL.out.length.symm
   rw [List.take_of_length_le (Nat.le_of_eq hlen)] at hev hok
   have HPR : Hid (progB ars ps = true) := hid (by rw [progB_of HAB.out HPB.out, hok, decide_eq_true (by rw [hlen]; exact hn120)]; rfl)
   have E2X := hid (hLV.ext0 E6.out (fun b hb h => by omega))
   have X1 := hid (hLV.heap K1.out (by omega)); have X2 := hid (hLV.heap K2.out (by omega))
   have XX := hid hXB; have XE := hid hdf; have HEV := hid hev; have HROW := hid hrow6; have HLV := hid hLV; have HLEN := hid hlen
   have HEE : Hid (w2.heap.size + 2 ≤ E) := hid (by omega)
   have HEN : Hid (E ∉ row) := hid (fun h => hEn (by simp [h]))
   have HRB : Hid (∀ b ∈ row, b < X.heap.size) := hid (fun b hb => (hob b (by simp [hb])).2)
   have hx6 := hLV.size
   obtain ⟨x0, x1, x2, x3, -⟩ := blk4f XX.out
   obtain ⟨y0, y1, y2, y3, yf⟩ := blk4f X1.out
   obtain ⟨z0, zf⟩ := blk1 X2.out
   clear hLV hXB hrow6 hn hev hml hok hob hv6 hz hdf hlen hEn hE6 hrow hprt hall hZ
   gi_wp2
   have hz := blk4_set (a' := .map (some Bm)) (b' := .int .i64 T) (c' := .slice q k d) (d' := .slice p n c) X1.out
   have hv := lv_set4 X (ga + 1) (.map (some Bm)) (.int .i64 T) (.slice q k d) (.slice p n c)
   generalize ((((X.setCell ⟨ga + 1, 0, none⟩ (.map (some Bm))).setCell ⟨ga + 1, 1, none⟩ (.int .i64 T)).setCell ⟨ga + 1, 2, none⟩ (.slice q k d)).setCell ⟨ga + 1, 3, none⟩ (.slice p n c)) = w5 at *
   have hv6 := lv_set w5 (ga + 1 + 1) 0 (.bool true)
   have hE7 := HEE.out
   have KB1 := hid (blk_off (g' := ga + 1 + 1) (o' := 0) hz (by omega) (.bool true))
   have KB2 := hid (blk1_set (b := .bool true) (hv.heap X2.out (by omega)))
   have KE := hid (hv6.heap (hv.heap XE.out (by omega)) (by omega))
   have HVV := hid (hv.trans hv6 (E := fun k => k = ga + 1 ∨ k = ga + 1 + 1) (fun _ _ h => .inl h) (fun _ _ h => .inr h))
   refine leaves_marks2 [E] _ (fun E' h => by simp at h; subst h; exact KE.out) (by simp) (fun W' hW' => ?_)
   obtain ⟨r0, r1, r2, r3, -⟩ := blk4f (hW'.heap KB1.out (by simp; omega))
   obtain ⟨rb, -⟩ := blk1 (hW'.heap KB2.out (by simp; omega))
   have hfin : Lv (fun k => k = E ∨ k = ga + 1 ∨ k = ga + 1 + 1) X W' := HVV.out.trans hW' (fun _ _ h => .inr h) (fun _ _ h => .inl (by simpa using h))
   have hfin2 : Lv (fun k => k = E ∨ k = ga + 1 ∨ k = ga + 1 + 1) w2 W' := (E2X.out.lv (D := fun _ => False)).trans hfin (fun _ _ h => h.elim) (fun _ _ h => h)
   have hbm := HOM.out.lt
   have hbm0 := HBM.out; have hz0 := HS0.out
   have hel : (evsOf ars ps).length = n := by unfold evsOf; rw [List.length_map, HLEN.out]
   refine ⟨.tuple #[.agg #[.map (some Bm), .int .i64 T, .slice q k d, .slice p n c], .bool true], by simp [results, Tryz.results23, go_sem, r0, r1, r2, r3, rb], ⟨.agg #[.map (some Bm), .int .i64 T, .slice q k d, .slice p n c], by rw [HPR.out], fun h => (by rw [HPR.out] at h; cases h), fun _ => ⟨Bm, D, q, d, p, c, by rw [HT.out, ← HK.out, hel], by omega, ?_, ?_, ?_, ?_⟩⟩, hfin2.ext0 E2.out (fun b hb h => by rw [HGA.out] at hb; omega)⟩
   ·exact ownsMap_lv (ownsMap_lv HOM.out (HX2.out.lv (D := fun _ => False)) (fun h => h)) hfin2 (fun h => by omega)
   ·exact HMI.out
   ·rw [← HK.out]
    exact (PartsOwn.lvB HPO.out hfin2 (fun b h1 h2 h => by omega)).weak (by omega)
   ·rw [hel]
    refine (HEV.out.lv hfin (fun b hb h => ?_) (fun b hb h => by omega)).own
    have h1 := HROW.out b hb
    rcases h with h | h
    ·exact HEN.out (h ▸ hb)
    ·omega
  case stop =>
   rintro E cd qq ow X hE6 hEn hq ⟨rfl, hLV, h3, h4, h5, h6, hbad⟩ hob hv6 hz hdf
   have HBAD := hid hbad
   have HN1 : Hid (ga + 1 ≠ E) := hid (by omega); have HN2 : Hid (ga + 1 + 1 ≠ E) := hid (by omega)
   have KE := hid hdf; have KB1 := hid h3; have KB2 := hid h4
   have HEX := hid (hLV.ext0 (E2.out.trans E6.out) (fun b hb h => by rw [HGA.out] at hb; omega))
   have HEE : Hid (ga < E) := hid (by omega)
   clear h3 h4 h5 h6 hbad hob hv6 hz hdf hq hLV hEn hE6 hs6 hs2 hs1a hs1 hrow hprt hall hZ
   gi_wp2
   refine leaves_marks2 [E] _ (fun E' h => by simp at h; subst h; exact KE.out) (by simp) (fun W' hW' => ?_)
   obtain ⟨r0, r1, r2, r3, -⟩ := blk4f (hW'.heap KB1.out (by simpa using HN1.out))
   obtain ⟨rb, -⟩ := blk1 (hW'.heap KB2.out (by simpa using HN2.out))
   exact ⟨.tuple #[.agg #[.map none, .int .i64 0, .slice none 0 0, .slice none 0 0], .bool false], by simp [results, Tryz.results23, go_sem, r0, r1, r2, r3, rb], ⟨_, by rw [HBAD.out], fun _ => rfl, fun h => by rw [HBAD.out] at h; cases h⟩, hW'.ext0 HEX.out (fun b hb h => by have := HEE.out; rw [HGA.out] at hb; simp at h; omega)⟩
 ·have HNO : Hid (progB ars ps = false) := hid (by
   by_cases h1 : ab = true
   ·have h2 : pb = false := by cases pb with
     | false => rfl
     | true => exact absurd ⟨h1, rfl⟩ hok
    exact progB_parts (by rw [HPB.out, h2])
   ·exact progB_no1 (by rw [HAB.out]; simpa using h1))
  obtain ⟨z0, z1, z2, z3, zf⟩ := blk4f C1.out
  obtain ⟨b0, bf⟩ := blk1 C2.out
  have hz := blk4_set (a' := .map none) (b' := .int .i64 0) (c' := .slice none 0 0) (d' := .slice none 0 0) C1.out
  have hv := lv_set4 w2 (ga + 1) (.map none) (.int .i64 0) (.slice none 0 0) (.slice none 0 0)
  obtain ⟨w3, hw3⟩ : ∃ w3, ((((w2.setCell ⟨ga + 1, 0, none⟩ (.map none)).setCell ⟨ga + 1, 1, none⟩ (.int .i64 0)).setCell ⟨ga + 1, 2, none⟩ (.slice none 0 0)).setCell ⟨ga + 1, 3, none⟩ (.slice none 0 0)) = w3 := ⟨_, rfl⟩
  rw [hw3] at hz hv
  have hv6 := lv_set w3 (ga + 1 + 1) 0 (.bool false)
  have KB1 := hid (blk_off (g' := ga + 1 + 1) (o' := 0) hz (by omega) (.bool false))
  have KB2 := hid (blk1_set (b := .bool false) (hv.heap C2.out (by omega)))
  have HVV := hid (hv.trans hv6 (E := fun k => k = ga + 1 ∨ k = ga + 1 + 1) (fun _ _ h => .inl h) (fun _ _ h => .inr h))
  have HW3 := hid hw3
  clear hz hv hv6 hw3
  have hok3 : ab = false ∨ (ab = true ∧ pb = false) := by
   cases ab with
   | false => exact .inl rfl
   | true => cases pb with
    | false => exact .inr ⟨rfl, rfl⟩
    | true => exact absurd ⟨rfl, rfl⟩ hok
  clear hok
  rcases hok3 with rfl | ⟨rfl, rfl⟩
  ·gi_wp2
   rw [HW3.out]
   refine leaves_marks2 [] _ (by simp) (by simp) (fun W' hW' => ?_)
   obtain ⟨r0, r1, r2, r3, -⟩ := blk4f (hW'.heap KB1.out (by simp))
   obtain ⟨rb, -⟩ := blk1 (hW'.heap KB2.out (by simp))
   exact ⟨.tuple #[.agg #[.map none, .int .i64 0, .slice none 0 0, .slice none 0 0], .bool false], by simp [results, Tryz.results23, go_sem, r0, r1, r2, r3, rb], ⟨_, by rw [HNO.out], fun _ => rfl, fun h => by rw [HNO.out] at h; cases h⟩, hW'.ext0 (HVV.out.ext0 E2.out (fun b hb h => by rw [HGA.out] at hb; omega)) (by simp)⟩
  ·gi_wp2
   rw [HW3.out]
   refine leaves_marks2 [] _ (by simp) (by simp) (fun W' hW' => ?_)
   obtain ⟨r0, r1, r2, r3, -⟩ := blk4f (hW'.heap KB1.out (by simp))
   obtain ⟨rb, -⟩ := blk1 (hW'.heap KB2.out (by simp))
   exact ⟨.tuple #[.agg #[.map none, .int .i64 0, .slice none 0 0, .slice none 0 0], .bool false], by simp [results, Tryz.results23, go_sem, r0, r1, r2, r3, rb], ⟨_, by rw [HNO.out], fun _ => rfl, fun h => by rw [HNO.out] at h; cases h⟩, hW'.ext0 (HVV.out.ext0 E2.out (fun b hb h => by rw [HGA.out] at hb; omega)) (by simp)⟩
end Go.Proofs.YtggpjapmhakklaaGreat
namespace Go.Proofs.YtggpjapmhakklaaGreat
open Go.Lib (hid)
open Go.RowKit Go.Maps
end Go.Proofs.YtggpjapmhakklaaGreat
