/- The texts G75, joined. No statement is proved here. -/
import Derived.Test.YtklehkkclojccaaGreatQI49
import Derived.Test.YtklehkkclojccaaGreatQI22
import Derived.Test.YtklehkkclojccaaGreatQI39
namespace Go.Proofs.YtklehkkclojccaaGreat
open Go.RowKit
abbrev I3 := Int × Int × List Int
abbrev EI := Value × I3
def tri (al : List EI) : List Value := al.flatMap (fun a => [.int .i64 a.2.1, .int .i64 a.2.2.1, a.1])
theorem tri_cons (a : EI) (al : List EI) : tri (a :: al) = .int .i64 a.2.1 :: .int .i64 a.2.2.1 :: a.1 :: tri al := rfl
theorem tri_push (al : List EI) (a : EI) : tri (al ++ [a]) = tri al ++ [.int .i64 a.2.1, .int .i64 a.2.2.1, a.1] := by unfold tri; rw [List.flatMap_append]; rfl
theorem tri_get : ∀ {al : List EI} {i : Nat} {a : EI}, al[i]? = some a → (tri al)[i * 3]? = some (.int .i64 a.2.1) ∧ (tri al)[i * 3 + 1]? = some (.int .i64 a.2.2.1) ∧ (tri al)[i * 3 + 2]? = some a.1
 | [], _, _, h => by simp at h
 | y :: r, 0, a, h => by
  simp only [List.getElem?_cons_zero, Option.some.injEq] at h
  subst h
  exact ⟨rfl, rfl, rfl⟩
 | y :: r, i + 1, a, h => by
  rw [List.getElem?_cons_succ] at h
  obtain ⟨h1, h2, h3⟩ := tri_get h
  rw [show (i + 1) * 3 = i * 3 + 3 by omega, tri_cons]
  exact ⟨by simpa using h1, by simpa using h2, by simpa using h3⟩
theorem tri_set : ∀ {al : List EI} {i : Nat} {a : EI} (x y : Int) (ys : List Int), al[i]? = some a → ((tri al).set (i * 3) (.int .i64 x)).set (i * 3 + 1) (.int .i64 y) = tri (al.set i (a.1, x, y, ys))
 | [], _, _, _, _, _, h => by simp at h
 | b :: r, 0, a, x, y, ys, h => by
  simp only [List.getElem?_cons_zero, Option.some.injEq] at h
  subst h
  rfl
 | b :: r, i + 1, a, x, y, ys, h => by
  rw [List.getElem?_cons_succ] at h
  have ih := tri_set x y ys h
  have e : ((tri (b :: r)).set (i * 3 + 3) (.int .i64 x)).set (i * 3 + 3 + 1) (.int .i64 y) = .int .i64 b.2.1 :: .int .i64 b.2.2.1 :: b.1 :: ((tri r).set (i * 3) (.int .i64 x)).set (i * 3 + 1) (.int .i64 y) := rfl
  rw [show (i + 1) * 3 = i * 3 + 3 by omega, e, ih]
  rfl
theorem set_same {α : Type} {l : List α} {j : Nat} {u : α} (h : l[j]? = some u) : l.set j u = l := by
 apply List.ext_getElem?
 intro i
 by_cases e : i = j
 ·subst e
  rw [List.getElem?_set_self (List.getElem?_eq_some_iff.1 h).1, h]
 ·rw [List.getElem?_set_ne (Ne.symm e)]
def NoSh (v : Value) (us : List Value) : Prop := (∀ u ∈ us, ∀ g, u.ownBlock = some g → v.ownBlock ≠ some g) ∧ ∀ (i j : Nat) (u u' : Value), us[i]? = some u → us[j]? = some u' → i ≠ j → ∀ g, u.ownBlock = some g → u'.ownBlock ≠ some g
def InsD (B : Nat) (w : World) (v : Value) (l : List I3) : Prop :=
 ∃ al : List EI, al.map (fun a => a.2) = l ∧ w.ownsRow B 74 3 v l.length (tri al) ∧ (∀ a ∈ al, IntsOwn B w a.1 a.2.2.2) ∧ NoSh v (al.map (fun a => a.1))
def InsAt (w : World) (v : Value) (l : List I3) : Prop :=
 ∃ p c, v = .slice p l.length c ∧ ∀ (i : Nat) (x : I3), l[i]? = some x → ∃ g pu cu, p = some ⟨g, 0, none⟩ ∧ g < w.heap.size ∧ w.cell? ⟨g, i * 3, none⟩ = some (.int .i64 x.1) ∧ w.cell? ⟨g, i * 3 + 1, none⟩ = some (.int .i64 x.2.1) ∧ w.cell? ⟨g, i * 3 + 2, none⟩ = some (.slice pu x.2.2.length cu) ∧ IntsAt w (.slice pu x.2.2.length cu) x.2.2
theorem InsAt.ext {w w' : World} {v : Value} {l : List I3} (h : InsAt w v l) (hE : Ext w w') : InsAt w' v l := by
 obtain ⟨p, c, rfl, h1⟩ := h
 refine ⟨p, c, rfl, fun i x hi => ?_⟩
 obtain ⟨g, pu, cu, e, hg, c0, c1, c2, hr⟩ := h1 i x hi
 exact ⟨g, pu, cu, e, Nat.lt_of_lt_of_le hg hE.size_le, hE.keep c0, hE.keep c1, hE.keep c2, hr.ext hE⟩
theorem InsAt.elem {w : World} {p : Option Addr} {n c : Nat} {l : List I3} (h : InsAt w (.slice p n c) l) {i : Nat} {x : I3} (hi : l[i]? = some x) :
  ∃ g pu cu, p = some ⟨g, 0, none⟩ ∧ g < w.heap.size ∧ w.cell? ⟨g, i * 3, none⟩ = some (.int .i64 x.1) ∧ w.cell? ⟨g, i * 3 + 1, none⟩ = some (.int .i64 x.2.1) ∧ w.cell? ⟨g, i * 3 + 2, none⟩ = some (.slice pu x.2.2.length cu) ∧ IntsAt w (.slice pu x.2.2.length cu) x.2.2 := by
 obtain ⟨p', c', e, h1⟩ := h
 cases e
 exact h1 i x hi
theorem row_cell {B n c g size : Nat} {t : TypeId} {w : World} {vs : List Value} (h : w.ownsRow B t size (.slice (some ⟨g, 0, none⟩) n c) n vs) {j : Nat} {u : Value} (hu : vs[j]? = some u) : w.cell? ⟨g, j, none⟩ = some u := by
 have h := World.ownsRow.cells h (g := g) rfl j u hu
 have hadd : (⟨g, 0, none⟩ : Addr).add j = ⟨g, j, none⟩ := by unfold Addr.add; split <;> simp_all
 rw [hadd] at h
 exact h
theorem row_some {B n size : Nat} {t : TypeId} {w : World} {v : Value} {vs : List Value} (h : w.ownsRow B t size v n vs) (h0 : n ≠ 0) : ∃ g c, v = .slice (some ⟨g, 0, none⟩) n c ∧ B ≤ g ∧ g < w.heap.size := by
 rcases h.2 with ⟨e, hz⟩ | ⟨g, cap, cur, e, hB, hg, _⟩
 ·exact absurd hz h0
 ·exact ⟨g, cap, e, hB, lt_of_block hg⟩
theorem row_formI {B n size : Nat} {t : TypeId} {w : World} {v : Value} {vs : List Value} (h : w.ownsRow B t size v n vs) : ∃ p c, v = .slice p n c := by
 rcases h.2 with ⟨rfl, hn⟩ | ⟨g, cap, cur, rfl, _⟩
 ·exact ⟨none, 0, by rw [hn]⟩
 ·exact ⟨_, _, rfl⟩
theorem InsD.form {B : Nat} {w : World} {v : Value} {l : List I3} (h : InsD B w v l) : ∃ p c, v = .slice p l.length c := by
 obtain ⟨al, -, ho, -, -⟩ := h
 exact row_formI ho
theorem map_get {α β : Type} {f : α → β} {al : List α} {i : Nat} {y : β} (h : (al.map f)[i]? = some y) : ∃ a, al[i]? = some a ∧ f a = y := by
 rw [List.getElem?_map] at h
 cases ha : al[i]? with
 | none => rw [ha] at h; cases h
 | some a => rw [ha] at h; exact ⟨a, rfl, by simpa using h⟩
theorem InsD.at {B : Nat} {w : World} {v : Value} {l : List I3} (h : InsD B w v l) : InsAt w v l := by
 obtain ⟨al, rfl, ho, hp, -⟩ := h
 obtain ⟨p, c, rfl⟩ := row_formI ho
 refine ⟨p, c, rfl, fun i x hi => ?_⟩
 obtain ⟨a, ha, rfl⟩ := map_get hi
 have h0 : (al.map (fun a => a.2)).length ≠ 0 := by have := (List.getElem?_eq_some_iff.1 hi).1; omega
 obtain ⟨g, c', e, -, hg⟩ := row_some ho h0
 cases e
 obtain ⟨t0, t1, t2⟩ := tri_get ha
 have hi2 := hp a (List.mem_of_getElem? ha)
 obtain ⟨pu, cu, hu⟩ := row_formI hi2
 rw [hu] at t2 hi2
 exact ⟨g, pu, cu, rfl, hg, row_cell ho t0, row_cell ho t1, row_cell ho t2, IntsOwn.at hi2⟩
theorem InsD.lvB {B : Nat} {D : Nat → Prop} {w w' : World} {v : Value} {l : List I3} (h : InsD B w v l) (hv : Lv D w w') (hD : ∀ b, B ≤ b → ¬ D b) : InsD B w' v l := by
 obtain ⟨al, h1, ho, hp, hn⟩ := h
 refine ⟨al, h1, row_lv ho hv (fun b hb => hD b ?_), fun a ha => row_lv (hp a ha) hv (fun b hb => hD b ?_), hn⟩
 ·exact (World.ownsRow.lt ho b hb).1
 ·exact (World.ownsRow.lt (hp a ha) b hb).1
theorem InsD.ext {B : Nat} {w w' : World} {v : Value} {l : List I3} (h : InsD B w v l) (hE : Ext w w') : InsD B w' v l := h.lvB (hE.lv (D := fun _ => False)) (fun _ _ h => h)
theorem InsD.turn {B n c j : Nat} {w : World} {p : Option Addr} {l : List I3} {x : I3} (h : InsD B w (.slice p n c) l) (hn : l.length = n) (hx : l[j]? = some x) :
  ∃ o pu cu, p = some ⟨o, 0, none⟩ ∧ B ≤ o ∧ o < w.heap.size ∧ w.cell? ⟨o, j * 3, none⟩ = some (.int .i64 x.1) ∧ w.cell? ⟨o, j * 3 + 1, none⟩ = some (.int .i64 x.2.1) ∧ w.cell? ⟨o, j * 3 + 2, none⟩ = some (.slice pu x.2.2.length cu) ∧ (∀ i, w.frozen? ⟨o, i, none⟩ = false) ∧
   (∀ y0 y1 : Int, IntsOwn B ((w.setCell ⟨o, j * 3, none⟩ (.int .i64 y0)).setCell ⟨o, j * 3 + 1, none⟩ (.int .i64 y1)) (.slice pu x.2.2.length cu) x.2.2) ∧
   (∀ (y0 y1 : Int) (w3 : World) (ys : List Int), ys.length = x.2.2.length → ((w.setCell ⟨o, j * 3, none⟩ (.int .i64 y0)).setCell ⟨o, j * 3 + 1, none⟩ (.int .i64 y1)).grownBy w3 (Value.slice pu x.2.2.length cu).ownBlock → IntsOwn B w3 (.slice pu x.2.2.length cu) ys →
    InsD B w3 (.slice p n c) (l.set j (y0, y1, ys)) ∧ Lv (fun b => B ≤ b) w w3) := by
 obtain ⟨al, rfl, ho, hp, hns⟩ := h
 obtain ⟨a, ha, rfl⟩ := map_get hx
 have h0 : (al.map (fun a => a.2)).length ≠ 0 := by have := (List.getElem?_eq_some_iff.1 hx).1; omega
 rw [hn] at ho h0
 obtain ⟨o, c', e, hB, hol⟩ := row_some ho h0
 cases e
 obtain ⟨t0, t1, t2⟩ := tri_get ha
 have hi2 := hp a (List.mem_of_getElem? ha)
 obtain ⟨pu, cu, hu⟩ := row_formI hi2
 have hua : (al.map (fun a => a.1))[j]? = some a.1 := by rw [List.getElem?_map, ha]; rfl
 have lv2 : ∀ y0 y1 : Int, Lv (fun b => b = o) w ((w.setCell ⟨o, j * 3, none⟩ (.int .i64 y0)).setCell ⟨o, j * 3 + 1, none⟩ (.int .i64 y1)) := fun y0 y1 => (lv_set w o (j * 3) _).trans (lv_set _ o (j * 3 + 1) _) (fun _ _ h => h) (fun _ _ h => h)
 have keep2 : ∀ (y0 y1 : Int) (b : EI), b ∈ al → IntsOwn B ((w.setCell ⟨o, j * 3, none⟩ (.int .i64 y0)).setCell ⟨o, j * 3 + 1, none⟩ (.int .i64 y1)) b.1 b.2.2.2 := fun y0 y1 b hb => row_lv (hp b hb) (lv2 y0 y1) (fun g hg e => hns.1 b.1 (List.mem_map.2 ⟨b, hb, rfl⟩) g hg (by rw [e]; rfl))
 refine ⟨o, pu, cu, rfl, hB, hol, row_cell ho t0, row_cell ho t1, by rw [← hu]; exact row_cell ho t2, fun i => World.ownsRow.frozenAt ho i, fun y0 y1 => by rw [← hu]; exact keep2 y0 y1 a (List.mem_of_getElem? ha), fun y0 y1 w3 ys hys hg hi3 => ?_⟩
 rw [← hu] at hg hi3
 have hgo : ∀ g, a.1.ownBlock = some g → g ≠ o := fun g hg' e => hns.1 a.1 (List.mem_map.2 ⟨a, List.mem_of_getElem? ha, rfl⟩) g hg' (by rw [e]; rfl)
 have hlv3 : Lv (fun b => a.1.ownBlock = some b) ((w.setCell ⟨o, j * 3, none⟩ (.int .i64 y0)).setCell ⟨o, j * 3 + 1, none⟩ (.int .i64 y1)) w3 := Lv.grown hg (fun r hr _ => hr)
 have hrow := (World.ownsRow.stored (World.ownsRow.stored ho (j * 3) (.int .i64 y0)).1 (j * 3 + 1) (.int .i64 y1)).1
 rw [tri_set y0 y1 ys ha] at hrow
 have hset : (al.set j (a.1, y0, y1, ys)).map (fun a => a.2) = (al.map (fun a => a.2)).set j (y0, y1, ys) := by rw [List.map_set]
 have hset1 : (al.set j (a.1, y0, y1, ys)).map (fun a => a.1) = al.map (fun a => a.1) := by
  rw [List.map_set]
  exact set_same hua
 refine ⟨⟨al.set j (a.1, y0, y1, ys), hset, ?_, fun b hb => ?_, by rw [hset1]; exact hns⟩, ?_⟩
 ·rw [List.length_set, hn]
  exact row_lv hrow hlv3 (fun g hg' e => hgo g e (by cases hg'; rfl))
 ·obtain ⟨i, hi⟩ := List.mem_iff_getElem?.1 hb
  by_cases hij : i = j
  ·subst hij
   rw [List.getElem?_set_self (List.getElem?_eq_some_iff.1 ha).1] at hi
   cases hi
   exact hi3
  ·rw [List.getElem?_set_ne (Ne.symm hij)] at hi
   exact row_lv (keep2 y0 y1 b (List.mem_of_getElem? hi)) hlv3 (fun g hg' e => hns.2 i j b.1 a.1 (by rw [List.getElem?_map, hi]; rfl) hua hij g hg' e)
 ·refine (lv2 y0 y1).trans hlv3 (fun b _ e => by rw [e]; exact hB) (fun b _ e => ?_)
  exact (World.ownsRow.lt hi2 b e).1
def endI (k : Int) : List I3 → Int
 | [] => k
 | x :: r => endI (k + 2 + x.2.2.length) r
def mkI (k : Int) : List I3 → List I3
 | [] => []
 | x :: r => (k, k + 1, marks (k + 2) x.2.2.length) :: mkI (k + 2 + x.2.2.length) r
theorem mkI_len (k : Int) (l : List I3) : (mkI k l).length = l.length := by
 induction l generalizing k with
 | nil => rfl
 | cons x r ih => simp [mkI, ih]
theorem endI_next {l : List I3} {j : Nat} {x : I3} (k : Int) (h : l[j]? = some x) : endI k (l.take (j + 1)) = endI k (l.take j) + 2 + x.2.2.length := by
 induction l generalizing k j with
 | nil => simp at h
 | cons y r ih =>
  cases j with
  | zero =>
   simp only [List.getElem?_cons_zero, Option.some.injEq] at h
   subst h
   rfl
  | succ j =>
   rw [List.getElem?_cons_succ] at h
   exact ih (k + 2 + y.2.2.length) h
theorem mkI_get {l : List I3} {j : Nat} {x : I3} (k : Int) (h : l[j]? = some x) : (mkI k l)[j]? = some (endI k (l.take j), endI k (l.take j) + 1, marks (endI k (l.take j) + 2) x.2.2.length) := by
 induction l generalizing k j with
 | nil => simp at h
 | cons y r ih =>
  cases j with
  | zero =>
   simp only [List.getElem?_cons_zero, Option.some.injEq] at h
   subst h
   rfl
  | succ j =>
   rw [List.getElem?_cons_succ] at h
   exact ih (k + 2 + y.2.2.length) h
theorem endI_bd {l : List I3} (h4 : ∀ x ∈ l, x.2.2.length ≤ 4) (k : Int) : k ≤ endI k l ∧ endI k l ≤ k + 6 * l.length := by
 induction l generalizing k with
 | nil => simp [endI]
 | cons x r ih =>
  have hx := h4 x (by simp)
  obtain ⟨h1, h2⟩ := ih (fun y hy => h4 y (by simp [hy])) (k + 2 + x.2.2.length)
  show k ≤ endI (k + 2 + x.2.2.length) r ∧ endI (k + 2 + x.2.2.length) r ≤ k + 6 * ((x :: r).length : Nat)
  rw [List.length_cons]
  omega
def midI (k : Int) (l : List I3) (j : Nat) : List I3 := mkI k (l.take j) ++ l.drop j
theorem midI_len (k : Int) (l : List I3) (j : Nat) : (midI k l j).length = l.length := by
 unfold midI
 rw [List.length_append, mkI_len, ← List.length_append, List.take_append_drop]
theorem mkI_app (k : Int) (l r : List I3) : mkI k (l ++ r) = mkI k l ++ mkI (endI k l) r := by
 induction l generalizing k with
 | nil => rfl
 | cons x l ih => simp [mkI, endI, ih]
theorem midI_get {l : List I3} {j : Nat} {x : I3} (k : Int) (h : l[j]? = some x) : (midI k l j)[j]? = some x := by
 have hj := (List.getElem?_eq_some_iff.1 h).1
 have hl : (mkI k (l.take j)).length = j := by rw [mkI_len, List.length_take]; omega
 unfold midI
 rw [List.getElem?_append_right (by omega), hl, Nat.sub_self, List.getElem?_drop]
 exact h
theorem midI_next {l : List I3} {j : Nat} {x : I3} (k : Int) (h : l[j]? = some x) : (midI k l j).set j (endI k (l.take j), endI k (l.take j) + 1, marks (endI k (l.take j) + 2) x.2.2.length) = midI k l (j + 1) := by
 have hj := (List.getElem?_eq_some_iff.1 h).1
 have hl : (mkI k (l.take j)).length = j := by rw [mkI_len, List.length_take]; omega
 unfold midI
 rw [List.set_append_right _ _ (by omega), hl, Nat.sub_self, take_next h, mkI_app]
 rw [show l.drop j = x :: l.drop (j + 1) from by rw [List.drop_eq_getElem_cons hj]; congr 1; exact (List.getElem?_eq_some_iff.1 h).2]
 simp [mkI]
set_option linter.unusedVariables false in
set_option maxRecDepth 100000 in
set_option maxHeartbeats 2000000 in
theorem eqInstanceS_same (s t : Value) (l : List I3) (w : World) (hl : l.length ≤ 1000) (hs : InsAt w s l) (ht : InsAt w t l) :
  Calls Tryz.prog 16 #[s, t] w fun e w' => e = .returned (.bool true) ∧ Ext w w' := by
 obtain ⟨p, c, rfl, -⟩ := id hs
 obtain ⟨q, d, rfl, -⟩ := id ht
 generalize hn : l.length = n at *
 have HS := Lib.hid hs; have HT := Lib.hid ht; have HN := Lib.hid hn; clear hs ht hn
 go_enter Tryz.func16, Tryz.ntmps16
 go_wp2
 go_loopw [5] (fun i wr => ∃ k : Nat, k ≤ n ∧ i = .int .i64 k ∧ Ext w wr) (fun i _ => n - (intOf i).toNat)
 case atStart => exact ⟨0, by omega, rfl, Ext.refl w⟩
 case round =>
  obtain ⟨k, hk, rfl, hE⟩ := hrel
  by_cases hlt : k < n
  ·obtain ⟨x, hx⟩ := get_some (xs := l) (k := k) (by rw [HN.out]; exact hlt)
   obtain ⟨b, pu, cu, rfl, hb, a0, a1, a2, hr⟩ := (HS.out.ext hE).elem hx
   obtain ⟨b', pv, cv, rfl, hb', b0, b1, b2, hr'⟩ := (HT.out.ext hE).elem hx
   have hkI : (k : Int) < (n : Int) := by omega
   obtain ⟨lx, hlx⟩ : ∃ m, x.2.2.length = m := ⟨_, rfl⟩
   rw [hlx] at a2 b2 hr hr'
   have HR := Lib.hid hr; have HR' := Lib.hid hr'; clear hx hr hr' hlx
   go_wp2_with (fail)
   go_region_held3 (fun W => W.cell? ⟨b, k * 3, none⟩ = some (.int .i64 x.1) ∧ W.cell? ⟨b, k * 3 + 1, none⟩ = some (.int .i64 x.2.1) ∧ W.cell? ⟨b, k * 3 + 2, none⟩ = some (.slice pu lx cu) ∧ W.cell? ⟨b', k * 3, none⟩ = some (.int .i64 x.1) ∧ W.cell? ⟨b', k * 3 + 1, none⟩ = some (.int .i64 x.2.1) ∧ W.cell? ⟨b', k * 3 + 2, none⟩ = some (.slice pv lx cv))
    (first | exact ⟨a0, a1, a2, b0, b1, b2⟩ | exact ⟨g3.keep a0, g3.keep a1, g3.keep a2, g3.keep b0, g3.keep b1, g3.keep b2⟩ | fail)
    (first | (go_at_call 52; (with_reducible refine (eqInstance_same x.1 x.2.1 (.slice pu lx cu) (.slice pv lx cv) x.2.2 _ (HR.out.ext (Ext.refl wr).drew) (HR'.out.ext (Ext.refl wr).drew)).mono ?_); rintro e w3 ⟨rfl, hE3⟩; have g3 := (Ext.refl wr).drew.trans hE3) | fail)
   go_wp2
   go_roundw
   case rel => exact ⟨k + 1, by omega, by go_num, hE.trans g3⟩
   case measure => simp [intOf]; omega
  ·obtain rfl : k = n := by omega
   go_wp2
   go_ret
   exact ⟨rfl, hE⟩
set_option linter.unusedVariables false in
set_option maxRecDepth 100000 in
set_option maxHeartbeats 2000000 in
theorem markInstanceS_any (B : Nat) (v : Value) (l : List I3) (k : Int) (w : World) (ho : InsD B w v l) (hl : l.length ≤ 1000) (h4 : ∀ x ∈ l, x.2.2.length ≤ 4) (hk : 0 ≤ k) (hk1 : k ≤ 1000) :
  Calls Tryz.prog 19 #[v, .int .i64 k] w fun e w' => e = .returned (.int .i64 (endI k l)) ∧ InsD B w' v (mkI k l) ∧ Lv (fun b => B ≤ b) w w' := by
 obtain ⟨p, c, rfl⟩ := ho.form
 generalize hn : l.length = n at *
 have HO := Lib.hid ho; have H4 := Lib.hid h4; clear ho h4
 have HN := Lib.hid hn; clear hn
 go_enter Tryz.func19, Tryz.ntmps19
 go_wp2
 go_loopw [1, 5] (fun kk i wr => ∃ j : Nat, j ≤ n ∧ i = .int .i64 j ∧ kk = .int .i64 (endI k (l.take j)) ∧ InsD B wr (.slice p n c) (midI k l j) ∧ Lv (fun b => B ≤ b) w wr) (fun _ i _ => n - (intOf i).toNat)
 case atStart => exact ⟨0, by omega, rfl, by simp [endI], by simpa [midI, mkI] using HO.out, Lv.refl _ w⟩
 case round =>
  obtain ⟨j, hj, rfl, rfl, hown, hg⟩ := hrel
  obtain ⟨hb1, hb2⟩ := endI_bd (l := l.take j) (fun x hx => H4.out x (List.mem_of_mem_take hx)) k
  have hb3 : (l.take j).length ≤ n := by rw [List.length_take, HN.out]; omega
  generalize hE : endI k (l.take j) = E at *
  have HE := Lib.hid hE; clear hE
  by_cases hlt : j < n
  ·obtain ⟨x, hx⟩ := get_some (xs := l) (k := j) (by rw [HN.out]; exact hlt)
   have hx4 := H4.out x (List.mem_of_getElem? hx)
   obtain ⟨o, pu, cu, rfl, hBo, hol, a0, a1, a2, hfz, t1, t2⟩ := hown.turn (by rw [midI_len, HN.out]) (midI_get k hx)
   have f0 := hfz (j * 3)
   have f1 := hfz (j * 3 + 1)
   have f2 := hfz (j * 3 + 2)
   have hjI : (j : Int) < (n : Int) := by omega
   obtain ⟨lx, hlx⟩ : ∃ m, x.2.2.length = m := ⟨_, rfl⟩
   rw [hlx] at a2 t1 t2 hx4
   have HX := Lib.hid hx; have T1 := Lib.hid t1; have T2 := Lib.hid t2; have HG := Lib.hid hg; have HLX := Lib.hid hlx
   clear hx t1 t2 hg hown hfz hlx
   go_wp2_with (fail)
   refine (markIntS_any B pu lx cu x.2.2 (E + 1 + 1) _ HLX.out (by have h := T1.out E (E + 1); unfold IntsOwn at h; rw [HLX.out] at h; exact h) (by omega) (by omega)).mono ?_
   rintro e w1 ⟨rfl, h1, h2⟩
   have hT := T2.out E (E + 1) w1 (marks (E + 1 + 1) lx) (marks_len _ _) h2 (IntsOwn.mk h1 (marks_len _ _))
   have NX := Lib.hid hT.1
   have NL := Lib.hid (HG.out.trans hT.2 (E := fun b => B ≤ b) (fun _ _ h => h) (fun _ _ h => h))
   have hend : Hid (E + 1 + 1 + (lx : Int) = endI k (l.take (j + 1))) := Lib.hid (by rw [endI_next k HX.out, HE.out, HLX.out]; omega)
   clear h1 h2 hT a0 a1 a2 f0 f1 f2
   go_wp2
   go_roundw
   case rel => exact ⟨j + 1, by omega, by go_num, by rw [hend.out], by have h := NX.out; have h2 := midI_next k HX.out; rw [HE.out, HLX.out] at h2; rw [show E + 1 + 1 = E + 2 by omega, h2] at h; exact h, NL.out⟩
   case measure => simp [intOf]; omega
  ·have e : j = n := by omega
   subst e
   have HW := Lib.hid hown; have HG := Lib.hid hg; clear hown hg
   go_wp2
   go_ret
   have e1 : l.take j = l := List.take_of_length_le (by rw [HN.out]; omega)
   refine ⟨by rw [← HE.out, e1]; rfl, ?_, HG.out⟩
   have h := HW.out
   unfold midI at h
   rwa [e1, List.drop_of_length_le (by rw [HN.out]; omega), List.append_nil] at h
set_option linter.unusedVariables false in
set_option maxRecDepth 100000 in
set_option maxHeartbeats 2000000 in
theorem heldInstanceS_any (v : Value) (l : List I3) (k : Int) (w : World) (hs : InsAt w v (mkI k l)) (hl : l.length ≤ 1000) (h4 : ∀ x ∈ l, x.2.2.length ≤ 4) (hk : 0 ≤ k) (hk1 : k ≤ 1000) :
  Calls Tryz.prog 20 #[v, .int .i64 k] w fun e w' => e = .returned (.int .i64 (endI k l)) ∧ w = w' := by
 obtain ⟨p, c, rfl, -⟩ := id hs
 rw [mkI_len] at hs ⊢
 generalize hn : l.length = n at *
 have HS := Lib.hid hs; have H4 := Lib.hid h4; clear hs h4
 have HN := Lib.hid hn; clear hn
 go_enter Tryz.func20, Tryz.ntmps20
 go_wp2
 go_loop [1, 5] (fun kk i => ∃ j : Nat, j ≤ n ∧ i = .int .i64 j ∧ kk = .int .i64 (endI k (l.take j))) (fun _ i => n - (intOf i).toNat)
 case atStart => exact ⟨0, by omega, rfl, by simp [endI]⟩
 case round =>
  obtain ⟨j, hj, rfl, rfl⟩ := hrel
  obtain ⟨hb1, hb2⟩ := endI_bd (l := l.take j) (fun x hx => H4.out x (List.mem_of_mem_take hx)) k
  have hb3 : (l.take j).length ≤ n := by rw [List.length_take, HN.out]; omega
  generalize hE : endI k (l.take j) = E at *
  have HE := Lib.hid hE; clear hE
  by_cases hlt : j < n
  ·obtain ⟨x, hx⟩ := get_some (xs := l) (k := j) (by rw [HN.out]; exact hlt)
   have hx4 := H4.out x (List.mem_of_getElem? hx)
   obtain ⟨b, pu, cu, rfl, hb, a0, a1, a2, hr⟩ := HS.out.elem (mkI_get k hx)
   rw [HE.out] at a0 a1 a2 hr
   dsimp only at a0 a1 a2 hr
   rw [marks_len] at a2 hr
   obtain ⟨lx, hlx⟩ : ∃ m, x.2.2.length = m := ⟨_, rfl⟩
   rw [hlx] at a2 hr hx4
   rw [show E + 2 = E + 1 + 1 by omega] at hr
   have HX := Lib.hid hx; have HR := Lib.hid hr; have HLX := Lib.hid hlx; clear hx hr hlx
   have hq0 : (E != E) = false := by simp
   have hq1 : (E + 1 != E + 1) = false := by simp
   have hjI : (j : Int) < (n : Int) := by omega
   have hneg : decide (E + 1 + 1 + (lx : Int) < 0) = false := by simp; omega
   have hend : Hid (E + 1 + 1 + (lx : Int) = endI k (l.take (j + 1))) := Lib.hid (by rw [endI_next k HX.out, HE.out, HLX.out]; omega)
   go_wp2_with (fail)
   refine (heldIntS_any _ lx (E + 1 + 1) _ HR.out (by omega) (by omega)).mono ?_
   rintro e w1 ⟨rfl, rfl⟩
   go_wp2
   go_round
   case rel => exact ⟨j + 1, by omega, by go_num, by rw [hend.out]⟩
   case measure => simp [intOf]; omega
  ·have e : j = n := by omega
   subst e
   go_wp2
   go_ret
   exact ⟨by rw [← HE.out, List.take_of_length_le (by rw [HN.out]; omega)]; rfl, rfl⟩
end Go.Proofs.YtklehkkclojccaaGreat
