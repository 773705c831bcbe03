/- The texts G63 G64 G50, joined. No statement is proved here. -/
import Derived.Test.YtklehkkclojccaaGreatQP33
import Derived.Test.YtklehkkclojccaaGreatQP36
import Derived.Test.YtklehkkclojccaaGreatQP31
import Derived.Test.YtklehkkclojccaaGreatQP37
import Derived.Test.YtklehkkclojccaaGreatQP39
set_option maxRecDepth 100000
set_option maxHeartbeats 8000000
set_option linter.unusedVariables false
set_option linter.unusedSimpArgs false
namespace Go.Proofs.YtklehkkclojccaaGreat
open Go.Lib (hid)
theorem jWx : ∀ p : List Int, lexB p p = false
 | [] => rfl
 | a :: p => by simp [lexB, jWx p]
theorem jVD : ∀ p q r : List Int, lexB p q = true → lexB q r = true → lexB p r = true
 | _, [], _, h, _ => by rw [jVU] at h; cases h
 | _, _ :: _, [], _, h => by rw [jVU] at h; cases h
 | [], _ :: _, _ :: _, _, _ => rfl
 | a :: p, b :: q, c :: r, h, k => by
  simp only [lexB] at *
  by_cases h1 : a = b
  ·subst h1
   rw [if_pos rfl] at h
   by_cases h2 : a = c
   ·subst h2
    rw [if_pos rfl] at k ⊢
    exact jVD p q r h k
   ·rw [if_neg h2] at k ⊢; exact k
  ·rw [if_neg h1] at h
   by_cases h2 : b = c
   ·subst h2
    rw [if_neg h1]; exact h
   ·rw [if_neg h2] at k
    simp only [decide_eq_true_eq] at h k
    rw [if_neg (by omega)]
    simp only [decide_eq_true_eq]; omega
theorem jVu : ∀ p q : List Int, lexB p q = false → lexB q p = false → p = q
 | [], [], _, _ => rfl
 | [], _ :: _, h, _ => by simp [lexB] at h
 | _ :: _, [], _, h => by simp [lexB] at h
 | a :: p, b :: q, h, k => by
  simp only [lexB] at h k
  by_cases h1 : a = b
  ·subst h1
   rw [if_pos rfl] at h k
   rw [jVu p q h k]
  ·rw [if_neg h1] at h
   rw [if_neg (Ne.symm h1)] at k
   simp only [decide_eq_false_iff_not] at h k
   omega
theorem jY5l {p q : List Int} (h : lexB p q = true) : lexB q p = false := by
 cases e : lexB q p with
 | false => rfl
 | true => have := jVD p q p h e; rw [jWx] at this; cases this
theorem jY3p {p q r : List Int} (h : lexB p q = false) (k : lexB q r = false) : lexB p r = false := by
 cases e : lexB p r with
 | false => rfl
 | true =>
  cases e2 : lexB q p with
  | true => rw [jVD q p r e2 e] at k; cases k
  | false => rw [jVu p q h e2] at e; rw [e] at k; cases k
theorem jY3b : ∀ {l m : List (List Int)}, l.Pairwise (fun x y => lexB x y = true) → m.Pairwise (fun x y => lexB x y = true) → (∀ x, x ∈ l ↔ x ∈ m) → l = m
 | [], [], _, _, _ => rfl
 | [], y :: m, _, _, h => by have := (h y).2 (by simp); simp at this
 | x :: l, [], _, _, h => by have := (h x).1 (by simp); simp at this
 | x :: l, y :: m, hl, hm, h => by
  obtain ⟨hl1, hl2⟩ := List.pairwise_cons.1 hl
  obtain ⟨hm1, hm2⟩ := List.pairwise_cons.1 hm
  have e : x = y := by
   rcases List.mem_cons.1 ((h x).1 (by simp)) with e | e
   ·exact e
   ·rcases List.mem_cons.1 ((h y).2 (by simp)) with e2 | e2
    ·exact e2.symm
    ·have a := hm1 x e; have b := hl1 y e2
     rw [jY5l a] at b; cases b
  subst e
  refine congrArg _ (jY3b hl2 hm2 (fun z => ⟨fun hz => ?_, fun hz => ?_⟩))
  ·rcases List.mem_cons.1 ((h z).1 (by simp [hz])) with e | e
   ·subst e; have := hl1 z hz; rw [jWx] at this; cases this
   ·exact e
  ·rcases List.mem_cons.1 ((h z).2 (by simp [hz])) with e | e
   ·subst e; have := hm1 z hz; rw [jWx] at this; cases this
   ·exact e
def insL (d : List Int) : List (List Int) → List (List Int)
 | [] => [d]
 | x :: l => if lexB d x = true then d :: x :: l else x :: insL d l
def addL (l : List (List Int)) (d : List Int) : List (List Int) := if d ∈ l then l else insL d l
def dstF (ds : List (List Int)) : List (List Int) := ds.foldl addL []
theorem jY1h (d y : List Int) : ∀ l, y ∈ insL d l ↔ y = d ∨ y ∈ l
 | [] => by simp [insL]
 | x :: l => by
  unfold insL
  split
  ·simp
  ·simp only [List.mem_cons, jY1h d y l]
   constructor
   ·rintro (h | h | h)
    ·exact .inr (.inl h)
    ·exact .inl h
    ·exact .inr (.inr h)
   ·rintro (h | h | h)
    ·exact .inr (.inl h)
    ·exact .inl h
    ·exact .inr (.inr h)
theorem jY2O (d : List Int) : ∀ {l : List (List Int)}, l.Pairwise (fun x y => lexB x y = true) → d ∉ l → (insL d l).Pairwise (fun x y => lexB x y = true)
 | [], _, _ => by simp [insL]
 | x :: l, h, hd => by
  obtain ⟨h1, h2⟩ := List.pairwise_cons.1 h
  simp only [List.mem_cons, not_or] at hd
  unfold insL
  split
  ·rename_i hx
   refine List.pairwise_cons.2 ⟨fun y hy => ?_, h⟩
   rcases List.mem_cons.1 hy with rfl | hy
   ·exact hx
   ·exact jVD _ _ _ hx (h1 y hy)
  ·rename_i hx
   refine List.pairwise_cons.2 ⟨fun y hy => ?_, jY2O d h2 hd.2⟩
   rcases (jY1h d y l).1 hy with rfl | hy
   ·cases e : lexB x y with
    | true => rfl
    | false => exact absurd (jVu _ _ (by simpa using hx) e) hd.1
   ·exact h1 y hy
theorem jY54 : ∀ (ds l : List (List Int)), l.Pairwise (fun x y => lexB x y = true) → (ds.foldl addL l).Pairwise (fun x y => lexB x y = true) ∧ ∀ x, x ∈ ds.foldl addL l ↔ x ∈ l ∨ x ∈ ds
 | [], l, h => ⟨h, fun x => by simp⟩
 | d :: ds, l, h => by
  have ha : (addL l d).Pairwise (fun x y => lexB x y = true) ∧ ∀ x, x ∈ addL l d ↔ x ∈ l ∨ x = d := by
   unfold addL
   split
   ·rename_i hd; exact ⟨h, fun x => ⟨.inl, fun hx => hx.elim id (fun e => e ▸ hd)⟩⟩
   ·rename_i hd; exact ⟨jY2O d h hd, fun x => by rw [jY1h]; exact Or.comm⟩
  obtain ⟨h1, h2⟩ := jY54 ds (addL l d) ha.1
  refine ⟨h1, fun x => ?_⟩
  rw [List.foldl_cons, h2, ha.2, List.mem_cons, or_assoc]
theorem jY42 (ds : List (List Int)) : (dstF ds).Pairwise (fun x y => lexB x y = true) ∧ ∀ x, x ∈ dstF ds ↔ x ∈ ds := by
 obtain ⟨h1, h2⟩ := jY54 ds [] List.Pairwise.nil
 exact ⟨h1, fun x => by rw [show dstF ds = ds.foldl addL [] from rfl, h2]; simp⟩
theorem jY4A (ds : List (List Int)) (d : List Int) : dstF (ds ++ [d]) = addL (dstF ds) d := by simp [dstF]
theorem jY0F (d : List Int) : ∀ l, (insL d l).length = l.length + 1
 | [] => rfl
 | x :: l => by unfold insL; split <;> simp [jY0F d l]
theorem jY3h (ds : List (List Int)) : (dstF ds).length ≤ ds.length := by
 have H : ∀ (ds l : List (List Int)), (ds.foldl addL l).length ≤ l.length + ds.length := by
  intro ds
  induction ds with
  | nil => intro l; simp
  | cons d ds ih =>
   intro l
   have h1 := ih (addL l d)
   have h2 : (addL l d).length ≤ l.length + 1 := by unfold addL; split; omega; rw [jY0F]; omega
   simp only [List.foldl_cons, List.length_cons]; omega
 have := H ds []
 simpa [dstF] using this
theorem jY4J {d : List Int} : ∀ {t : List (List Int)}, t.any (fun x => lexB d x) = false → insL d t = t ++ [d]
 | [], _ => rfl
 | x :: t, h => by
  simp only [List.any_cons, Bool.or_eq_false_iff] at h
  unfold insL
  rw [h.1, if_neg (by simp), jY4J h.2]; rfl
theorem jWD {d x : List Int} : ∀ {t : List (List Int)}, t.any (fun x => lexB d x) = true → insL d (t ++ [x]) = insL d t ++ [x]
 | [], h => by simp at h
 | y :: t, h => by
  simp only [List.any_cons, Bool.or_eq_true] at h
  rw [List.cons_append]
  unfold insL
  by_cases hy : lexB d y = true
  ·rw [if_pos hy, if_pos hy]; rfl
  ·rw [if_neg hy, if_neg hy, jWD (h.resolve_left hy)]; rfl
theorem jV5 {d x : List Int} (hx : lexB d x = true) : ∀ {t : List (List Int)}, t.any (fun x => lexB d x) = false → insL d (t ++ [x]) = t ++ [d, x]
 | [], _ => by simp [insL, hx]
 | y :: t, h => by
  simp only [List.any_cons, Bool.or_eq_false_iff] at h
  rw [List.cons_append]
  unfold insL
  rw [h.1, if_neg (by simp), jV5 hx h.2]; rfl
def l6St (d : List Int) (t : List (List Int)) : List (List Int) := if t.any (fun x => lexB d x) = true then insL d t else t
def cpK {α : Type} (f : α → List Int) (al : List α) : Nat → List α
 | 0 => []
 | k + 1 => match al[k]? with
  | none => cpK f al k
  | some x => if k ≠ 0 ∧ (al[k - 1]?).map f = some (f x) then cpK f al k else cpK f al k ++ [x]
theorem jWH {α : Type} {f : α → List Int} {al : List α} {k : Nat} {x y : α} (hx : al[k + 1]? = some x) (hy : al[k]? = some y) : cpK f al (k + 1 + 1) = if f y = f x then cpK f al (k + 1) else cpK f al (k + 1) ++ [x] := by
 conv => lhs; unfold cpK
 rw [hx]
 simp only [Nat.add_sub_cancel, hy, Option.map_some, Option.some.injEq]
 by_cases h : f y = f x <;> simp [h]
theorem jY4H {α : Type} {f : α → List Int} {al : List α} {x : α} (hx : al[0]? = some x) : cpK f al 1 = [x] := by simp [cpK, hx]
theorem jY4C {α : Type} (f : α → List Int) (al : List α) : ∀ k, (cpK f al k).Sublist (al.take k)
 | 0 => by simp [cpK]
 | k + 1 => by
  have ih := jY4C f al k
  unfold cpK
  cases h : al[k]? with
  | none => rw [List.take_of_length_le (by have := List.getElem?_eq_none_iff.1 h; omega)] at ih ⊢ <;> first | exact ih | (have := List.getElem?_eq_none_iff.1 h; omega)
  | some x =>
   rw [jZ6 h]
   dsimp only
   split
   ·exact ih.trans (List.sublist_append_left _ _)
   ·exact ih.append (List.Sublist.refl _)
theorem jY14 {α : Type} {f : α → List Int} {al : List α} : ∀ {k : Nat}, k ≤ al.length → (∀ j x y, j + 1 < k → al[j]? = some y → al[j + 1]? = some x → f y ≠ f x) → cpK f al k = al.take k
 | 0, _, _ => by simp [cpK]
 | 1, hk, _ => by
  obtain ⟨x, hx⟩ := jZ0 (xs := al) (k := 0) (by omega)
  rw [jY4H hx, jZ6 hx]; simp
 | k + 1 + 1, hk, h => by
  obtain ⟨x, hx⟩ := jZ0 (xs := al) (k := k + 1) (by omega)
  obtain ⟨y, hy⟩ := jZ0 (xs := al) (k := k) (by omega)
  rw [jWH hx hy, if_neg (h k x y (by omega) hy hx), jY14 (k := k + 1) (by omega) (fun j x y hj => h j x y (by omega)), jZ6 hx]
theorem jY4I {α : Type} (f : α → List Int) (al : List α) (hs : al.Pairwise (fun a b => lexB (f b) (f a) = false)) : ∀ k, k ≤ al.length → ((cpK f al k).map f).Pairwise (fun x y => lexB x y = true) ∧ ∀ x, x ∈ (cpK f al k).map f ↔ x ∈ (al.take k).map f
 | 0, _ => ⟨by simp [cpK], fun x => by simp [cpK]⟩
 | 1, hk => by
  obtain ⟨x, hx⟩ := jZ0 (xs := al) (k := 0) (by omega)
  rw [jY4H hx, jZ6 hx]; simp
 | k + 1 + 1, hk => by
  obtain ⟨h1, h2⟩ := jY4I f al hs (k + 1) (by omega)
  obtain ⟨x, hx⟩ := jZ0 (xs := al) (k := k + 1) (by omega)
  obtain ⟨y, hy⟩ := jZ0 (xs := al) (k := k) (by omega)
  rw [jWH hx hy, jZ6 hx]
  by_cases he : f y = f x
  ·rw [if_pos he]
   refine ⟨h1, fun z => ?_⟩
   rw [h2 z, List.map_append, List.mem_append]
   refine ⟨.inl, fun h => h.elim id (fun h => ?_)⟩
   simp at h
   subst h
   rw [← he, jZ6 hy]
   simp
  ·rw [if_neg he]
   refine ⟨?_, fun z => by rw [List.map_append, List.map_append, List.mem_append, List.mem_append, h2 z]⟩
   rw [List.map_append]
   refine List.pairwise_append.2 ⟨h1, by simp, fun a ha b hb => ?_⟩
   simp at hb
   subst hb
   have ha2 := (h2 a).1 ha
   obtain ⟨z, hz, rfl⟩ := List.mem_map.1 ha2
   obtain ⟨j, hj⟩ := List.mem_iff_getElem?.1 hz
   rw [List.getElem?_take] at hj
   split at hj
   ·rename_i hjk
    obtain ⟨hj1, rfl⟩ := List.getElem?_eq_some_iff.1 hj
    obtain ⟨hx1, rfl⟩ := List.getElem?_eq_some_iff.1 hx
    obtain ⟨hy1, rfl⟩ := List.getElem?_eq_some_iff.1 hy
    have hlast := List.pairwise_iff_getElem.1 hs k (k + 1) hy1 hx1 (by omega)
    have hxy : lexB (f al[k]) (f al[k + 1]) = true := by
     cases e : lexB (f al[k]) (f al[k + 1]) with
     | true => rfl
     | false => exact absurd (jVu _ _ e hlast) he
    rcases Nat.lt_or_ge j k with h | h
    ·have hjk2 := List.pairwise_iff_getElem.1 hs j k hj1 hy1 h
     cases e : lexB (f al[j]) (f al[k + 1]) with
     | true => rfl
     | false =>
      have h4 : lexB (f al[k]) (f al[k + 1]) = false := jY3p hjk2 e
      rw [hxy] at h4; cases h4
    ·have : j = k := by omega
     subst this; exact hxy
   ·cases hj
theorem cp_dst {α : Type} (f : α → List Int) {al al0 : List α} (hp : al.Perm al0) (hs : al.Pairwise (fun a b => lexB (f b) (f a) = false)) : (cpK f al al.length).map f = dstF (al0.map f) := by
 obtain ⟨h1, h2⟩ := jY4I f al hs al.length (Nat.le_refl _)
 obtain ⟨h3, h4⟩ := jY42 (al0.map f)
 refine jY3b h1 h3 (fun x => ?_)
 rw [h2, h4, List.take_length]
 exact (hp.map f).mem_iff
end Go.Proofs.YtklehkkclojccaaGreat
namespace Go.Proofs.YtklehkkclojccaaGreat
open Go.Lib (hid)
open Go.RowKit
def subL (p q : List Int) : List Int := List.zipWith (fun a b => a - b) p q
theorem jY4q {p q : List Int} {k : Nat} {x y : Int} (hx : p[k]? = some x) (hy : q[k]? = some y) : (subL p q)[k]? = some (x - y) := by simp [subL, List.getElem?_zipWith, hx, hy]
theorem jY0G {p q : List Int} {n : Nat} (hp : p.length = n) (hq : q.length = n) : (subL p q).length = n := by simp [subL, hp, hq]
theorem jY2h (p q : Option Addr) (n c d : Nat) (xs ys : List Int) (w : World) (hx : xs.length = n) (hy : ys.length = n) (hn : n ≤ 1000) (hs : IntsAt w (.slice p n c) xs) (ht : IntsAt w (.slice q n d) ys) (hbx : ∀ x ∈ xs, -1000000 ≤ x ∧ x ≤ 1000000) (hby : ∀ x ∈ ys, -1000000 ≤ x ∧ x ≤ 1000000) :
  Calls Tryz.prog 114 #[.slice p n c, .slice q n d] w fun e w' => (∃ v', e = .returned v' ∧ jZ2 w.heap.size w' v' (subL xs ys)) ∧ Ext w w' := by
 obtain ⟨-, hc⟩ := hs.cl
 obtain ⟨-, hd⟩ := ht.cl
 have HX := hid hx; have HY := hid hy; have HC := hid hc; have HD := hid hd; have HBX := hid hbx; have HBY := hid hby
 have HSL : Hid ((subL xs ys).length = n) := hid (jY0G hx hy)
 clear hx hy hc hd hs ht hbx hby
 go_enter Tryz.func114, Tryz.ntmps114
 go_wp2
 go_loopw [5, 6] (fun ov iv wr => ∃ (k : Nat) (r : Option Addr) (cc : Nat), k ≤ n ∧ iv = .int .i64 k ∧ ov = .slice r k cc ∧ wr.ownsRow w.heap.size 3 1 (.slice r k cc) k (((subL xs ys).take k).map (Value.int .i64)) ∧ Ext w wr) (fun _ iv _ => n - (intOf iv).toNat)
 case atStart => exact ⟨0, some ⟨w.heap.size, 0, none⟩, 0, by omega, rfl, rfl, World.ownsRow_made w #[] 0 (Nat.le_refl _) (Nat.zero_le _) rfl, (Ext.refl w).alloc _⟩
 case round =>
  obtain ⟨k, r, cc, hk, rfl, rfl, ho, hE⟩ := hrel
  have HO := hid ho; have HE := hid hE
  clear ho hE
  by_cases hlt : k < n
  ·obtain ⟨x, hx⟩ := jZ0 (xs := xs) (k := k) (by rw [HX.out]; exact hlt)
   obtain ⟨y, hy⟩ := jZ0 (xs := ys) (k := k) (by rw [HY.out]; exact hlt)
   obtain ⟨b, off, rfl, hcx⟩ := HC.out k x hx
   obtain ⟨b2, off2, rfl, hcy⟩ := HD.out k y hy
   have c1 := HE.out.keep hcx
   have c2 := HE.out.keep hcy
   have hb1 := HBX.out x (List.mem_of_getElem? hx)
   have hb2 := HBY.out y (List.mem_of_getElem? hy)
   have hwv : IntKind.i64.wrap (x - y) = x - y := IntWalk.i64_in _ (by omega)
   have HZ := hid (jY4q hx hy)
   have hkI : (k : Int) < (n : Int) := by omega
   have hwr := HE.out.size_le
   have HCX := hid hcx; have HCY := hid hcy
   clear hx hy hcx hcy
   go_wp2_with (fail)
   go_region_held3 (fun W => W.cell? ⟨b, off + k, none⟩ = some (.int .i64 x) ∧ W.cell? ⟨b2, off2 + k, none⟩ = some (.int .i64 y))
    (first | exact ⟨c1, c2⟩ | exact ⟨((Ext.refl wr).alloc _).keep c1, ((Ext.refl wr).alloc _).keep c2⟩ | exact ⟨g3.keep HCX.out, g3.keep HCY.out⟩ | fail)
    (first | (refine jY4y rfl (.tmp 14) (.tmp 24) rfl w.heap.size k r cc _ (x - y) wr.heap.size 0 rfl rfl (jZ3 HO.out (by first | exact ((Ext.refl wr).alloc _).drew | exact ((Ext.refl wr).drew).alloc _)) (by first | exact (Ext.refl _).drew.keep (new0 wr _ [] 3) | exact new0 wr _ [] 3) (by omega) (by first | (show w.heap.size ≤ (wr.alloc _).heap.size; simp; omega) | (simp; omega)) ?_; intro g cap w4 hown hgrow; have g3 : Ext w w4 := ((HE.out.alloc (.cells #[.int .i64 (x - y)] 3)).drew).grown hgrow (fun b hb => (HO.out.lt b hb).1)) | fail)
   have HO4 : Hid (w4.ownsRow w.heap.size 3 1 (.slice (some ⟨g, 0, none⟩) (k + 1) cap) (k + 1) (((subL xs ys).take (k + 1)).map (Value.int .i64))) := hid (by rw [jZ6 HZ.out]; exact hown)
   have G3 := hid g3
   clear hown hgrow g3 c1 c2
   go_wp2
   go_roundw
   case rel => exact ⟨k + 1, _, cap, by omega, by go_num, rfl, HO4.out, G3.out⟩
   case measure => simp [intOf]; omega
  ·obtain rfl : k = n := by omega
   have HR : Hid (jZ2 w.heap.size wr (.slice r k cc) (subL xs ys)) := hid (jZ2.mk (by have h := HO.out; rwa [List.take_of_length_le (by rw [HSL.out]; omega)] at h) HSL.out)
   go_wp2
   go_ret
   exact ⟨⟨_, rfl, HR.out⟩, HE.out⟩
theorem jY4f {d x : List Int} {t : List (List Int)} : l6St d (t ++ [x]) = if t.any (fun x => lexB d x) = true then l6St d t ++ [x] else if lexB d x = true then t ++ [d, x] else t ++ [x] := by
 unfold l6St
 by_cases h : t.any (fun x => lexB d x) = true
 ·rw [if_pos h, if_pos h, if_pos (by simp [List.any_append, h]), jWD h]
 ·rw [if_neg h]
  by_cases hx : lexB d x = true
  ·rw [if_pos (by simp [List.any_append, hx]), if_pos hx, jV5 hx (by simpa using h)]
  ·rw [if_neg (by simp only [List.any_append, List.any_cons, List.any_nil, Bool.or_false, Bool.or_eq_true, not_or]; exact ⟨h, hx⟩), if_neg hx]
theorem jY5v {d : List Int} {l : List (List Int)} (h : d ∉ l) : addL l d = if l.any (fun x => lexB d x) = true then l6St d l else l6St d l ++ [d] := by
 unfold addL l6St
 rw [if_neg h]
 by_cases ha : l.any (fun x => lexB d x) = true
 ·rw [if_pos ha, if_pos ha]
 ·rw [if_neg ha, if_neg ha, jY4J (by simpa using ha)]
theorem jY5H (d : List Int) (t : List (List Int)) : (l6St d t).length ≤ t.length + 1 := by unfold l6St; split; (rw [jY0F]; omega); omega
theorem jY2H {d x : List Int} {t : List (List Int)} (h : d ∉ t) (hx : x ≠ d) : d ∉ t ++ [x] := by
 intro hm
 rcases List.mem_append.1 hm with hm | hm
 ·exact h hm
 ·simp at hm; exact hx hm.symm
def PtsW (Bo B : Nat) (w : World) (v : Value) (xss : List (List Int)) : Prop := ∃ vs, w.ownsRow Bo 39 1 v xss.length vs ∧ ∀ (i : Nat) (xs : List Int), xss[i]? = some xs → ∃ u : Value, vs[i]? = some u ∧ jZ2 B w u xs
theorem PtsW.pts {Bo B : Nat} {w : World} {v : Value} {xss : List (List Int)} (h : PtsW Bo B w v xss) (hB : B ≤ Bo) : PtsOwn B w v xss := by
 obtain ⟨vs, h1, h2⟩ := h
 exact ⟨vs, jZ7 h1 hB, h2⟩
theorem PtsW.ext {Bo B : Nat} {w w' : World} {v : Value} {xss : List (List Int)} (h : PtsW Bo B w v xss) (hE : Ext w w') : PtsW Bo B w' v xss := by
 obtain ⟨vs, ho, he⟩ := h
 exact ⟨vs, jZ3 ho hE, fun i xs hi => by obtain ⟨u, h0, h1⟩ := he i xs hi; exact ⟨u, h0, h1.ext hE⟩⟩
theorem PtsW.push {Bo B m : Nat} {w w' : World} {v v' u : Value} {xss : List (List Int)} {ps : List Int} {vs : List Value} (hm : xss.length = m) (he : ∀ (i : Nat) (xs : List Int), xss[i]? = some xs → ∃ u : Value, vs[i]? = some u ∧ jZ2 B w u xs) (hvl : vs.length = m)
  (ho' : w'.ownsRow Bo 39 1 v' (m + 1) (vs ++ [u])) (hg : w.grownBy w' v.ownBlock) (ht : Tag w v.ownBlock 39) (hx : jZ2 B w u ps) : PtsW Bo B w' v' (xss ++ [ps]) := by
 refine ⟨vs ++ [u], by rw [List.length_append, hm]; exact ho', fun i xs hi => ?_⟩
 rcases Nat.lt_or_ge i xss.length with hlt | hge
 ·rw [List.getElem?_append_left hlt] at hi
  obtain ⟨u', h0, h1⟩ := he i xs hi
  exact ⟨u', by rw [List.getElem?_append_left (by omega)]; exact h0, h1.tag hg ht (by decide)⟩
 ·rw [List.getElem?_append_right hge] at hi
  have hi0 : i - xss.length = 0 := by
   rcases Nat.eq_zero_or_pos (i - xss.length) with h | h
   ·exact h
   ·rw [List.getElem?_eq_none (by simp; omega)] at hi; cases hi
  rw [hi0] at hi
  simp at hi
  subst hi
  have hin : i = m := by omega
  subst hin
  exact ⟨u, by rw [List.getElem?_append_right (by omega)]; simp [hvl], hx.tag hg ht (by decide)⟩
theorem jY4S (B : Nat) (p : Option Addr) (n c0 : Nat) (r : Option Addr) (L cr : Nat) (xss : List (List Int)) (d : List Int) (w : World) (hn : xss.length = n) (hn2 : n ≤ 20000) (hl : PtsOwn B w (.slice p n c0) xss) (hB : B ≤ w.heap.size) (hd : jZ2 B w (.slice r L cr) d) :
  Calls Tryz.prog 113 #[.slice p n c0, .slice r L cr] w fun e w' => (∃ v', e = .returned v' ∧ PtsOwn B w' v' (addL xss d)) ∧ Ext w w' := by
 obtain ⟨j0, hj0, hj1, hj2, hj3⟩ := info_parts infoSS
 have HN := hid hn; have HL := hid hl; have HD := hid hd
 clear hn hl hd
 have HO0 : Hid (PtsW w.heap.size B (w.alloc (.cells #[] 39)) (.slice (some ⟨w.heap.size, 0, none⟩) 0 0) []) := hid ⟨[], World.ownsRow_made w #[] 0 (Nat.le_refl _) (Nat.zero_le _) rfl, fun i xs h => by simp at h⟩
 go_enter Tryz.func113, Tryz.ntmps113
 go_wp2
 go_loopw [5, 6, 7] (fun ov dv iv wr => ∃ (k : Nat) (q : Option Addr) (m c : Nat), k ≤ n ∧ iv = .int .i64 k ∧ ov = .slice q m c ∧ (l6St d (xss.take k)).length = m ∧ dv = .bool ((xss.take k).any (fun x => lexB d x)) ∧ d ∉ xss.take k ∧ PtsW w.heap.size B wr (.slice q m c) (l6St d (xss.take k)) ∧ Ext w wr) (fun _ _ iv _ => n - (intOf iv).toNat)
 case atStart => exact ⟨0, _, 0, 0, by omega, rfl, rfl, by simp [l6St], by simp, by simp, by simpa [l6St] using HO0.out, (Ext.refl w).alloc _⟩
 case round =>
  obtain ⟨k, q, m, c, hk, rfl, rfl, hm, rfl, hni, hpw, hE⟩ := hrel
  have hmb : m ≤ 20001 := by
   have h1 := jY5H d (xss.take k)
   rw [List.length_take] at h1
   omega
  obtain ⟨db, hdb⟩ : ∃ db, (xss.take k).any (fun x => lexB d x) = db := ⟨_, rfl⟩
  rw [hdb]
  have HM := hid hm; have HDB := hid hdb; have HNI := hid hni; have HPW := hid hpw; have HE := hid hE
  clear hm hdb hni hpw hE HO0
  by_cases hlt : k < n
  ·obtain ⟨x, hx⟩ := jZ0 (xs := xss) (k := k) (by rw [HN.out]; exact hlt)
   obtain ⟨g, u, rfl, cu, hu⟩ := HL.out.at2 hx
   obtain ⟨pu, cu', rfl⟩ := jWB hu
   obtain ⟨lx, hlx⟩ : ∃ n, x.length = n := ⟨_, rfl⟩
   rw [hlx] at hu cu
   have HX := hid hx; have HU := hid hu; have HCU := hid cu
   have cu0 := HE.out.keep cu
   have hkI : (k : Int) < (n : Int) := by omega
   clear hx hu hlx cu
   go_wp2_with (fail)
   refine (jY3C _ _ x d wr (HU.out.at.ext HE.out) (HD.out.at.ext HE.out)).mono ?_
   rintro e w1 ⟨rfl, hE1⟩
   have E1 := hid (HE.out.trans hE1); have HP1 := hid (HPW.out.ext hE1)
   clear hE1 cu0
   by_cases hxd : x = d
   ·have hb : eqB x d = true := by simp [eqB, hxd]
    have HR : Hid (addL xss d = xss) := hid (by unfold addL; rw [if_pos (by rw [← hxd]; exact List.mem_of_getElem? HX.out)])
    rw [hb]
    clear hb hxd
    go_wp2
    go_ret
    exact ⟨⟨_, rfl, by rw [HR.out]; exact HL.out.ext E1.out⟩, E1.out⟩
   ·have hb : eqB x d = false := by simp [eqB, hxd]
    have HNX : Hid (d ∉ xss.take (k + 1)) := hid (by rw [jZ6 HX.out]; exact jY2H HNI.out hxd)
    have HAN : Hid ((xss.take (k + 1)).any (fun x => lexB d x) = (db || lexB d x)) := hid (by rw [jZ6 HX.out, List.any_append, HDB.out]; simp)
    have HSN : Hid (l6St d (xss.take (k + 1)) = if db = true then l6St d (xss.take k) ++ [x] else if lexB d x = true then l6St d (xss.take k) ++ [d] ++ [x] else l6St d (xss.take k) ++ [x]) := hid (by
     rw [jZ6 HX.out, jY4f, HDB.out]
     by_cases h : db = true
     ·rw [if_pos h, if_pos h]
     ·have e : l6St d (xss.take k) = xss.take k := by unfold l6St; rw [HDB.out, if_neg h]
      rw [if_neg h, if_neg h, e, List.append_assoc]; rfl)
    rw [hb]
    clear hb hxd
    have cu1 := E1.out.keep HCU.out
    cases db with
    | true =>
     have HEL := hid (HU.out.ext E1.out)
     have HPAa := hid (HP1.out.ext ((Ext.refl w1).alloc (.cells #[.slice pu lx cu'] 39)))
     obtain ⟨vsa, hoa, hea⟩ := HPAa.out
     rw [HM.out] at hoa
     have hvla := hoa.1
     rw [Nat.mul_one] at hvla
     have HHEa := hid hea
     have hEsa := E1.out.size_le
     clear hea
     go_wp2_with (at_builtin; refine wpList_append_own_at _ rfl (.tmp 36) (.tmp 41) 46 rfl w.heap.size 39 j0 (.slice none 0 0) 1 24 jXj hj0 hj1 hj2 hj3 rfl (by decide) (.slice q m c) m vsa rfl hoa ⟨(w1).heap.size, 0, none⟩ 1 1 [.slice pu lx cu'] rfl rfl ?e1a ?e2a ?e3a ?e4a ?e5a ?_)
     case e1a => exact jZC (by simp)
     case e2a => intro u hu; simp at hu; subst hu; rfl
     case e3a => unfold maxLen; omega
     case e4a => omega
     case e5a => simp; omega
     intro v2 w6a hown2 hgrow2 hnil2 hat2
     obtain ⟨gqa, dqa, rfl, hdq⟩ := jZd hown2 (by first | exact hnil2 | exact fun e => by have := (hnil2.1 e).2; omega)
     have HPNa := hid (PtsW.push HM.out HHEa.out hvla hown2 hgrow2 (jZx hoa) (HEL.out.ext ((Ext.refl _).alloc _)))
     have E6a := hid ((E1.out.alloc (.cells #[.slice pu lx cu'] 39)).grown hgrow2 (fun b hb => (hoa.lt b hb).1))
     clear hown2 hgrow2 hnil2 hat2 hoa hvla hdq hEsa
     have HSN2 : Hid (l6St d (xss.take (k + 1)) = l6St d (xss.take k) ++ [x]) := hid (by rw [HSN.out]; simp)
     have HLL : Hid ((l6St d (xss.take (k + 1))).length = m + 1) := hid (by rw [HSN2.out, List.length_append, HM.out]; rfl)
     have HPP : Hid (PtsW w.heap.size B w6a (.slice (some ⟨gqa, 0, none⟩) (m + 1) dqa) (l6St d (xss.take (k + 1)))) := hid (by rw [HSN2.out]; exact HPNa.out)
     clear cu1
     go_wp2
     go_roundw
     case rel => exact ⟨k + 1, _, m + 1, _, by omega, by go_num, rfl, HLL.out, by rw [HAN.out]; rfl, HNX.out, HPP.out, E6a.out⟩
     case measure => simp [intOf]; omega
    | false =>
     go_wp2_with (fail)
     refine (jY04 _ _ d x w1 (HD.out.at.ext E1.out) (HU.out.at.ext E1.out)).mono ?_
     rintro e w2 ⟨rfl, hE2⟩
     have E2 := hid (E1.out.trans hE2); have HP2 := hid (HP1.out.ext hE2)
     obtain ⟨lb, hlb⟩ : ∃ lb, lexB d x = lb := ⟨_, rfl⟩
     rw [hlb] at HSN HAN ⊢
     clear hE2 cu1 hlb
     have HELx := hid (HU.out.ext E2.out); have HELd := hid (HD.out.ext E2.out)
     have cu2 := E2.out.keep HCU.out
     cases lb with
     | true =>
      have HPAb := hid (HP2.out.ext ((Ext.refl w2).alloc (.cells #[.slice r L cr] 39)))
      obtain ⟨vsb, hob, heb⟩ := HPAb.out
      rw [HM.out] at hob
      have hvlb := hob.1
      rw [Nat.mul_one] at hvlb
      have HHEb := hid heb
      have hEsb := E2.out.size_le
      clear heb
      go_wp2_with (at_builtin; refine wpList_append_own_at _ rfl (.tmp 32) (.tmp 34) 46 rfl w.heap.size 39 j0 (.slice none 0 0) 1 24 jXj hj0 hj1 hj2 hj3 rfl (by decide) (.slice q m c) m vsb rfl hob ⟨(w2).heap.size, 0, none⟩ 1 1 [.slice r L cr] rfl rfl ?e1b ?e2b ?e3b ?e4b ?e5b ?_)
      case e1b => exact jZC (by simp)
      case e2b => intro u hu; simp at hu; subst hu; rfl
      case e3b => unfold maxLen; omega
      case e4b => omega
      case e5b => simp; omega
      intro v2 w6b hown2 hgrow2 hnil2 hat2
      obtain ⟨gqb, dqb, rfl, hdq⟩ := jZd hown2 (by first | exact hnil2 | exact fun e => by have := (hnil2.1 e).2; omega)
      have HPNb := hid (PtsW.push HM.out HHEb.out hvlb hown2 hgrow2 (jZx hob) (HELd.out.ext ((Ext.refl _).alloc _)))
      have E6b := hid ((E2.out.alloc (.cells #[.slice r L cr] 39)).grown hgrow2 (fun b hb => (hob.lt b hb).1))
      clear hown2 hgrow2 hnil2 hat2 hob hvlb hdq hEsb
      have HMb : Hid ((l6St d (xss.take k) ++ [d]).length = m + 1) := hid (by rw [List.length_append, HM.out]; rfl)
      have HELy := hid (HU.out.ext E6b.out)
      clear cu2
      have cu3 := E6b.out.keep HCU.out
      have HPAc := hid (HPNb.out.ext ((Ext.refl w6b).alloc (.cells #[.slice pu lx cu'] 39)))
      obtain ⟨vsc, hoc, hec⟩ := HPAc.out
      rw [HMb.out] at hoc
      have hvlc := hoc.1
      rw [Nat.mul_one] at hvlc
      have HHEc := hid hec
      have hEsc := E6b.out.size_le
      clear hec
      go_wp2_with (at_builtin; refine wpList_append_own_at _ rfl (.tmp 36) (.tmp 41) 46 rfl w.heap.size 39 j0 (.slice none 0 0) 1 24 jXj hj0 hj1 hj2 hj3 rfl (by decide) (.slice (some ⟨gqb, 0, none⟩) (m + 1) dqb) (m + 1) vsc rfl hoc ⟨(w6b).heap.size, 0, none⟩ 1 1 [.slice pu lx cu'] rfl rfl ?e1c ?e2c ?e3c ?e4c ?e5c ?_)
      case e1c => exact jZC (by simp)
      case e2c => intro u hu; simp at hu; subst hu; rfl
      case e3c => unfold maxLen; omega
      case e4c => omega
      case e5c => simp; omega
      intro v2 w6c hown2 hgrow2 hnil2 hat2
      obtain ⟨gqc, dqc, rfl, hdq⟩ := jZd hown2 (by first | exact hnil2 | exact fun e => by have := (hnil2.1 e).2; omega)
      have HPNc := hid (PtsW.push HMb.out HHEc.out hvlc hown2 hgrow2 (jZx hoc) (HELy.out.ext ((Ext.refl _).alloc _)))
      have E6c := hid ((E6b.out.alloc (.cells #[.slice pu lx cu'] 39)).grown hgrow2 (fun b hb => (hoc.lt b hb).1))
      clear hown2 hgrow2 hnil2 hat2 hoc hvlc hdq hEsc
      have HSN2 : Hid (l6St d (xss.take (k + 1)) = l6St d (xss.take k) ++ [d] ++ [x]) := hid (by rw [HSN.out]; simp)
      have HLL : Hid ((l6St d (xss.take (k + 1))).length = m + 1 + 1) := hid (by rw [HSN2.out, List.length_append, HMb.out]; rfl)
      have HPP : Hid (PtsW w.heap.size B w6c (.slice (some ⟨gqc, 0, none⟩) (m + 1 + 1) dqc) (l6St d (xss.take (k + 1)))) := hid (by rw [HSN2.out]; exact HPNc.out)
      clear cu3
      go_wp2
      go_roundw
      case rel => exact ⟨k + 1, _, m + 1 + 1, _, by omega, by go_num, rfl, HLL.out, by rw [HAN.out]; rfl, HNX.out, HPP.out, E6c.out⟩
      case measure => simp [intOf]; omega
     | false =>
      have HPAd := hid (HP2.out.ext ((Ext.refl w2).alloc (.cells #[.slice pu lx cu'] 39)))
      obtain ⟨vsd, hod, hed⟩ := HPAd.out
      rw [HM.out] at hod
      have hvld := hod.1
      rw [Nat.mul_one] at hvld
      have HHEd := hid hed
      have hEsd := E2.out.size_le
      clear hed
      go_wp2_with (at_builtin; refine wpList_append_own_at _ rfl (.tmp 36) (.tmp 41) 46 rfl w.heap.size 39 j0 (.slice none 0 0) 1 24 jXj hj0 hj1 hj2 hj3 rfl (by decide) (.slice q m c) m vsd rfl hod ⟨(w2).heap.size, 0, none⟩ 1 1 [.slice pu lx cu'] rfl rfl ?e1d ?e2d ?e3d ?e4d ?e5d ?_)
      case e1d => exact jZC (by simp)
      case e2d => intro u hu; simp at hu; subst hu; rfl
      case e3d => unfold maxLen; omega
      case e4d => omega
      case e5d => simp; omega
      intro v2 w6d hown2 hgrow2 hnil2 hat2
      obtain ⟨gqd, dqd, rfl, hdq⟩ := jZd hown2 (by first | exact hnil2 | exact fun e => by have := (hnil2.1 e).2; omega)
      have HPNd := hid (PtsW.push HM.out HHEd.out hvld hown2 hgrow2 (jZx hod) (HELx.out.ext ((Ext.refl _).alloc _)))
      have E6d := hid ((E2.out.alloc (.cells #[.slice pu lx cu'] 39)).grown hgrow2 (fun b hb => (hod.lt b hb).1))
      clear hown2 hgrow2 hnil2 hat2 hod hvld hdq hEsd
      have HSN2 : Hid (l6St d (xss.take (k + 1)) = l6St d (xss.take k) ++ [x]) := hid (by rw [HSN.out]; simp)
      have HLL : Hid ((l6St d (xss.take (k + 1))).length = m + 1) := hid (by rw [HSN2.out, List.length_append, HM.out]; rfl)
      have HPP : Hid (PtsW w.heap.size B w6d (.slice (some ⟨gqd, 0, none⟩) (m + 1) dqd) (l6St d (xss.take (k + 1)))) := hid (by rw [HSN2.out]; exact HPNd.out)
      clear cu2
      go_wp2
      go_roundw
      case rel => exact ⟨k + 1, _, m + 1, _, by omega, by go_num, rfl, HLL.out, by rw [HAN.out]; rfl, HNX.out, HPP.out, E6d.out⟩
      case measure => simp [intOf]; omega
  ·obtain rfl : k = n := by omega
   have hall : xss.take k = xss := List.take_of_length_le (by rw [HN.out]; omega)
   have HNI2 : Hid (d ∉ xss) := hid (by rw [← hall]; exact HNI.out)
   have HDB2 : Hid (xss.any (fun x => lexB d x) = db) := hid (by rw [← hall]; exact HDB.out)
   have HM2 : Hid ((l6St d xss).length = m) := hid (by rw [← hall]; exact HM.out)
   have HP2 : Hid (PtsW w.heap.size B wr (.slice q m c) (l6St d xss)) := hid (by rw [← hall]; exact HPW.out)
   have HADD := hid (jY5v HNI2.out)
   clear hall
   cases db with
   | true =>
    have HR : Hid (PtsOwn B wr (.slice q m c) (addL xss d)) := hid (by have h := HADD.out; rw [HDB2.out] at h; simp only [if_true] at h; rw [h]; exact HP2.out.pts hB)
    go_wp2
    go_ret
    exact ⟨⟨_, rfl, HR.out⟩, HE.out⟩
   | false =>
    have HELd := hid (HD.out.ext HE.out)
    have HPAf := hid (HP2.out.ext ((Ext.refl wr).alloc (.cells #[.slice r L cr] 39)))
    obtain ⟨vsf, hof, hef⟩ := HPAf.out
    rw [HM2.out] at hof
    have hvlf := hof.1
    rw [Nat.mul_one] at hvlf
    have HHEf := hid hef
    have hEsf := HE.out.size_le
    clear hef
    go_wp2_with (at_builtin; refine wpList_append_own_at _ rfl (.tmp 45) (.tmp 47) 46 rfl w.heap.size 39 j0 (.slice none 0 0) 1 24 jXj hj0 hj1 hj2 hj3 rfl (by decide) (.slice q m c) m vsf rfl hof ⟨(wr).heap.size, 0, none⟩ 1 1 [.slice r L cr] rfl rfl ?e1f ?e2f ?e3f ?e4f ?e5f ?_)
    case e1f => exact jZC (by simp)
    case e2f => intro u hu; simp at hu; subst hu; rfl
    case e3f => unfold maxLen; omega
    case e4f => omega
    case e5f => simp; omega
    intro v2 w6f hown2 hgrow2 hnil2 hat2
    obtain ⟨gqf, dqf, rfl, hdq⟩ := jZd hown2 (by first | exact hnil2 | exact fun e => by have := (hnil2.1 e).2; omega)
    have HPNf := hid (PtsW.push HM2.out HHEf.out hvlf hown2 hgrow2 (jZx hof) (HELd.out.ext ((Ext.refl _).alloc _)))
    have E6f := hid ((HE.out.alloc (.cells #[.slice r L cr] 39)).grown hgrow2 (fun b hb => (hof.lt b hb).1))
    clear hown2 hgrow2 hnil2 hat2 hof hvlf hdq hEsf
    have HR : Hid (PtsOwn B w6f (.slice (some ⟨gqf, 0, none⟩) (m + 1) dqf) (addL xss d)) := hid (by have h := HADD.out; rw [HDB2.out] at h; simp only [Bool.false_eq_true, if_false] at h; rw [h]; exact HPNf.out.pts hB)
    go_wp2
    go_ret
    exact ⟨⟨_, rfl, HR.out⟩, E6f.out⟩
end Go.Proofs.YtklehkkclojccaaGreat
namespace Go.Proofs.YtklehkkclojccaaGreat
open Go.Lib (hid)
open Go.RowKit Go.Maps
def IMp (w : World) (b n : Nat) (F : Int → Option Value) : Prop := ∃ D : DataW Value, w.ownsMap Tryz.prog 3 rawE b n D ∧ ∀ c : Int, Maps.has D (.int .i64 c) = (F c).isSome ∧ ∀ v, F c = some v → ∀ z, D.atKey (.int .i64 c) z = .held v
theorem IMp.made (w : World) : IMp (w.alloc (.map #[] 0)) w.heap.size 0 (fun _ => none) :=
 ⟨.map [], World.ownsMap_made w Tryz.prog 3 rawE, fun c => ⟨rfl, fun v h => by cases h⟩⟩
theorem IMp.kept {w w' : World} {b n : Nat} {F : Int → Option Value} {row : Option Nat} (h : IMp w b n F) (hg : w.grownBy w' row) (hne : some b ≠ row) : IMp w' b n F := by
 obtain ⟨D, h1, h2⟩ := h
 exact ⟨D, h1.kept hg hne, h2⟩
theorem IMp.ext {w w' : World} {b n : Nat} {F : Int → Option Value} (h : IMp w b n F) (hE : Ext w w') : IMp w' b n F := h.kept (hE.grownBy none) (by simp)
theorem IMp.setCell {w : World} {b n : Nat} {F : Int → Option Value} (h : IMp w b n F) {a : Addr} (ha : b ≠ a.block) (u : Value) : IMp (w.setCell a u) b n F := by
 obtain ⟨D, h1, h2⟩ := h
 exact ⟨D, h1.setCell ha u, h2⟩
theorem IMp.lt {w : World} {b n : Nat} {F : Int → Option Value} (h : IMp w b n F) : b < w.heap.size := by obtain ⟨D, h1, -⟩ := h; exact h1.lt
end Go.Proofs.YtklehkkclojccaaGreat
