/- The texts G63 G64 E3 E4 G50, joined. No statement is proved here. -/
import Derived.Test.YtklehkkclojccaaGreatQL31
import Derived.Test.YtklehkkclojccaaGreatQL34
import Derived.Test.YtklehkkclojccaaGreatQL29
import Derived.Test.YtklehkkclojccaaGreatQL35
import Derived.Test.YtklehkkclojccaaGreatQL37
import Derived.Test.YtklehkkclojccaaGreatQL40
import Derived.Test.YtklehkkclojccaaGreatQL19
import Derived.Test.YtklehkkclojccaaGreatQL08
import Derived.Test.YtklehkkclojccaaGreatQL49
set_option maxRecDepth 100000
set_option maxHeartbeats 8000000
set_option linter.unusedVariables false
set_option linter.unusedSimpArgs false
namespace Go.Proofs.YtklehkkclojccaaGreat
open Go.Lib (hid)
section
theorem jWL : ∀ p : List Int, lexB p p = false
 | [] => rfl
 | a :: p => by simp [lexB, jWL p]
theorem jVT : ∀ p q r : List Int, lexB p q = true -> lexB q r = true -> lexB p r = true
 | _, [], _, h, _ => by rw [jY0f] at h; cases h
 | _, _ :: _, [], _, h => by rw [jY0f] at h; cases h
 | [], _ :: _, _ :: _, _, _ => rfl
 | a :: p, b :: q, c :: r, h, k => by
  simp only [lexB] at *; by_cases h1 : a = b
  ·subst h1
   rw [if_pos rfl] at h; by_cases h2 : a = c
   ·subst h2
    rw [if_pos rfl] at k ⊢; exact jVT p q r h k
   ·rw [if_neg h2] at k ⊢; exact k
  ·rw [if_neg h1] at h
   by_cases h2 : b = c
   ·subst h2
    rw [if_neg h1]; exact h
   ·rw [if_neg h2] at k
    simp only [decide_eq_true_eq] at h k; rw [if_neg (by omega)]; simp only [decide_eq_true_eq]; omega
theorem jVv : ∀ p q : List Int, lexB p q = false -> lexB q p = false -> p = q
 | [], [], _, _ => rfl
 | [], _ :: _, h, _ => by simp [lexB] at h
 | _ :: _, [], _, h => by simp [lexB] at h
 | a :: p, b :: q, h, k => by
  simp only [lexB] at h k; by_cases h1 : a = b
  ·subst h1
   rw [if_pos rfl] at h k; rw [jVv p q h k]
  ·rw [if_neg h1] at h
   rw [if_neg (Ne.symm h1)] at k; simp only [decide_eq_false_iff_not] at h k; omega
theorem jY5H {p q : List Int} (h : lexB p q = true) : lexB q p = false := by
 cases e : lexB q p with
 | false => rfl
 | true => have := jVT p q p h e; rw [jWL] at this; cases this
theorem jY3H {p q r : List Int} (h : lexB p q = false) (k : lexB q r = false) : lexB p r = false := by
 cases e : lexB p r with
 | false => rfl
 | true =>
  cases e2 : lexB q p with
  | true => rw [jVT q p r e2 e] at k; cases k
  | false => rw [jVv p q h e2] at e; rw [e] at k; cases k
theorem jY3L : ∀ {l m : List (List Int)}, l.Pairwise (fun x y => lexB x y = true) -> m.Pairwise (fun x y => lexB x y = true) -> (∀ x, x ∈ l ↔ x ∈ m) -> l = m
 | [], [], _, _, _ => rfl
 | [], y :: m, _, _, h => by have := (h y).2 (by simp); simp at this
 | x :: l, [], _, _, h => by have := (h x).1 (by simp); simp at this
 | x :: l, y :: m, hl, hm, h => by
  obtain ⟨hl1, hl2⟩ := List.pairwise_cons.1 hl; obtain ⟨hm1, hm2⟩ := List.pairwise_cons.1 hm
  have e : x = y := by
   rcases List.mem_cons.1 ((h x).1 (by simp)) with e | e
   ·exact e
   ·rcases List.mem_cons.1 ((h y).2 (by simp)) with e2 | e2
    ·exact e2.symm
    ·have a := hm1 x e; have b := hl1 y e2
     rw [jY5H a] at b; cases b
  subst e; refine congrArg _ (jY3L hl2 hm2 (fun z => ⟨fun hz => ?_, fun hz => ?_⟩))
  ·rcases List.mem_cons.1 ((h z).1 (by simp [hz])) with e | e
   ·subst e; have := hl1 z hz; rw [jWL] at this; cases this
   ·exact e
  ·rcases List.mem_cons.1 ((h z).2 (by simp [hz])) with e | e
   ·subst e; have := hm1 z hz; rw [jWL] at this; cases this
   ·exact e
def insL (d : List Int) : List (List Int) -> List (List Int)
 | [] => [d]
 | x :: l => if lexB d x = true then d :: x :: l else x :: insL d l
def addL (l : List (List Int)) (d : List Int) : List (List Int) := if d ∈ l then l else insL d l
def dstF (ds : List (List Int)) : List (List Int) := ds.foldl addL []
theorem jY14 (d y : List Int) : ∀ l, y ∈ insL d l ↔ y = d \/ y ∈ l
 | [] => by simp [insL]
 | x :: l => by
  unfold insL
  split
  ·simp
  ·simp only [List.mem_cons, jY14 d y l]
   constructor
   ·rintro (h | h | h)
    ·exact .inr (.inl h)
    ·exact .inl h
    ·exact .inr (.inr h)
   ·rintro (h | h | h)
    ·exact .inr (.inl h)
    ·exact .inl h
    ·exact .inr (.inr h)
theorem jY3w (d : List Int) : ∀ {l : List (List Int)}, l.Pairwise (fun x y => lexB x y = true) -> d ∉ l -> (insL d l).Pairwise (fun x y => lexB x y = true)
 | [], _, _ => by simp [insL]
 | x :: l, h, hd => by
  obtain ⟨h1, h2⟩ := List.pairwise_cons.1 h; simp only [List.mem_cons, not_or] at hd; unfold insL
  split
  ·rename_i hx
   refine List.pairwise_cons.2 ⟨fun y hy => ?_, h⟩; rcases List.mem_cons.1 hy with rfl | hy
   ·exact hx
   ·exact jVT _ _ _ hx (h1 y hy)
  ·rename_i hx
   refine List.pairwise_cons.2 ⟨fun y hy => ?_, jY3w d h2 hd.2⟩; rcases (jY14 d y l).1 hy with rfl | hy
   ·cases e : lexB x y with
    | true => rfl
    | false => exact absurd (jVv _ _ (by simpa using hx) e) hd.1
   ·exact h1 y hy
theorem jY5n : ∀ (ds l : List (List Int)), l.Pairwise (fun x y => lexB x y = true) -> (ds.foldl addL l).Pairwise (fun x y => lexB x y = true) /\ ∀ x, x ∈ ds.foldl addL l ↔ x ∈ l \/ x ∈ ds
 | [], l, h => ⟨h, fun x => by simp⟩
 | d :: ds, l, h => by
  have ha : (addL l d).Pairwise (fun x y => lexB x y = true) /\ ∀ x, x ∈ addL l d ↔ x ∈ l \/ x = d := by
   unfold addL
   split
   ·rename_i hd; exact ⟨h, fun x => ⟨.inl, fun hx => hx.elim id (fun e => e ▸ hd)⟩⟩
   ·rename_i hd; exact ⟨jY3w d h hd, fun x => by rw [jY14]; exact Or.comm⟩
  obtain ⟨h1, h2⟩ := jY5n ds (addL l d) ha.1; refine ⟨h1, fun x => ?_⟩; rw [List.foldl_cons, h2, ha.2, List.mem_cons, or_assoc]
theorem jY54 (ds : List (List Int)) : (dstF ds).Pairwise (fun x y => lexB x y = true) /\ ∀ x, x ∈ dstF ds ↔ x ∈ ds := by
 obtain ⟨h1, h2⟩ := jY5n ds [] List.Pairwise.nil
 exact ⟨h1, fun x => by rw [show dstF ds = ds.foldl addL [] from rfl, h2]; simp⟩
theorem jY4Y (ds : List (List Int)) (d : List Int) : dstF (ds ++ [d]) = addL (dstF ds) d := by simp [dstF]
theorem jY1c (d : List Int) : ∀ l, (insL d l).length = l.length + 1
 | [] => rfl
 | x :: l => by unfold insL; split <;> simp [jY1c d l]
theorem jY3A (ds : List (List Int)) : (dstF ds).length <= ds.length := by
 have H : ∀ (ds l : List (List Int)), (ds.foldl addL l).length <= l.length + ds.length := by
  intro ds
  induction ds with
  | nil => intro l; simp
  | cons d ds ih =>
   intro l; have h1 := ih (addL l d); have h2 : (addL l d).length <= l.length + 1 := by unfold addL; split; omega; rw [jY1c]; omega
   simp only [List.foldl_cons, List.length_cons]; omega
 have := H ds []
 simpa [dstF] using this
theorem jY59 {d : List Int} : ∀ {t : List (List Int)}, t.any (fun x => lexB d x) = false -> insL d t = t ++ [d]
 | [], _ => rfl
 | x :: t, h => by
  simp only [List.any_cons, Bool.or_eq_false_iff] at h; unfold insL; rw [h.1, if_neg (by simp), jY59 h.2]; rfl
theorem jWz {d x : List Int} : ∀ {t : List (List Int)}, t.any (fun x => lexB d x) = true -> insL d (t ++ [x]) = insL d t ++ [x]
 | [], h => by simp at h
 | y :: t, h => by
  simp only [List.any_cons, Bool.or_eq_true] at h; rw [List.cons_append]; unfold insL; by_cases hy : lexB d y = true
  ·rw [if_pos hy, if_pos hy]; rfl
  ·rw [if_neg hy, if_neg hy, jWz (h.resolve_left hy)]; rfl
theorem jVd {d x : List Int} (hx : lexB d x = true) : ∀ {t : List (List Int)}, t.any (fun x => lexB d x) = false -> insL d (t ++ [x]) = t ++ [d, x]
 | [], _ => by simp [insL, hx]
 | y :: t, h => by
  simp only [List.any_cons, Bool.or_eq_false_iff] at h; rw [List.cons_append]; unfold insL; rw [h.1, if_neg (by simp), jVd hx h.2]; rfl
def l6St (d : List Int) (t : List (List Int)) : List (List Int) := if t.any (fun x => lexB d x) = true then insL d t else t
def cpK {α : Type} (f : α -> List Int) (al : List α) : Nat -> List α
 | 0 => []
 | k + 1 => match al[k]? with
  | none => cpK f al k
  | some x => if k ≠ 0 /\ (al[k - 1]?).map f = some (f x) then cpK f al k else cpK f al k ++ [x]
theorem jWK {α : Type} {f : α -> List Int} {al : List α} {k : Nat} {x y : α} (hx : al[k + 1]? = some x) (hy : al[k]? = some y) : cpK f al (k + 1 + 1) = if f y = f x then cpK f al (k + 1) else cpK f al (k + 1) ++ [x] := by
 conv => lhs; unfold cpK
 rw [hx]
 simp only [Nat.add_sub_cancel, hy, Option.map_some, Option.some.injEq]
 by_cases h : f y = f x <;> simp [h]
theorem jY4K {α : Type} {f : α -> List Int} {al : List α} {x : α} (hx : al[0]? = some x) : cpK f al 1 = [x] := by simp [cpK, hx]
theorem jY4s {α : Type} (f : α -> List Int) (al : List α) : ∀ k, (cpK f al k).Sublist (al.take k)
 | 0 => by simp [cpK]
 | k + 1 => by
  have ih := jY4s f al k; unfold cpK; cases h : al[k]? with
  | none => rw [List.take_of_length_le (by have := List.getElem?_eq_none_iff.1 h; omega)] at ih ⊢ <;> first | exact ih | (have := List.getElem?_eq_none_iff.1 h; omega)
  | some x =>
   rw [jZ6 h]; dsimp only
   split
   ·exact ih.trans (List.sublist_append_left _ _)
   ·exact ih.append (List.Sublist.refl _)
theorem jY1d {α : Type} {f : α -> List Int} {al : List α} : ∀ {k : Nat}, k <= al.length -> (∀ j x y, j + 1 < k -> al[j]? = some y -> al[j + 1]? = some x -> f y ≠ f x) -> cpK f al k = al.take k
 | 0, _, _ => by simp [cpK]
 | 1, hk, _ => by
  obtain ⟨x, hx⟩ := jZ0 (xs := al) (k := 0) (by omega); rw [jY4K hx, jZ6 hx]; simp
 | k + 1 + 1, hk, h => by
  obtain ⟨x, hx⟩ := jZ0 (xs := al) (k := k + 1) (by omega); obtain ⟨y, hy⟩ := jZ0 (xs := al) (k := k) (by omega); rw [jWK hx hy, if_neg (h k x y (by omega) hy hx), jY1d (k := k + 1) (by omega) (fun j x y hj => h j x y (by omega)), jZ6 hx]
theorem jY57 {α : Type} (f : α -> List Int) (al : List α) (hs : al.Pairwise (fun a b => lexB (f b) (f a) = false)) : ∀ k, k <= al.length -> ((cpK f al k).map f).Pairwise (fun x y => lexB x y = true) /\ ∀ x, x ∈ (cpK f al k).map f ↔ x ∈ (al.take k).map f
 | 0, _ => ⟨by simp [cpK], fun x => by simp [cpK]⟩
 | 1, hk => by
  obtain ⟨x, hx⟩ := jZ0 (xs := al) (k := 0) (by omega); rw [jY4K hx, jZ6 hx]; simp
 | k + 1 + 1, hk => by
  obtain ⟨h1, h2⟩ := jY57 f al hs (k + 1) (by omega); obtain ⟨x, hx⟩ := jZ0 (xs := al) (k := k + 1) (by omega); obtain ⟨y, hy⟩ := jZ0 (xs := al) (k := k) (by omega); rw [jWK hx hy, jZ6 hx]; by_cases he : f y = f x
  ·rw [if_pos he]
   refine ⟨h1, fun z => ?_⟩; rw [h2 z, List.map_append, List.mem_append]; refine ⟨.inl, fun h => h.elim id (fun h => ?_)⟩; simp at h; subst h; rw [<- he, jZ6 hy]; simp
  ·rw [if_neg he]
   refine ⟨?_, fun z => by rw [List.map_append, List.map_append, List.mem_append, List.mem_append, h2 z]⟩; rw [List.map_append]; refine List.pairwise_append.2 ⟨h1, by simp, fun a ha b hb => ?_⟩; simp at hb; subst hb; have ha2 := (h2 a).1 ha; obtain ⟨z, hz, rfl⟩ := List.mem_map.1 ha2; obtain ⟨j, hj⟩ := List.mem_iff_getElem?.1 hz; rw [List.getElem?_take] at hj
   split at hj
   ·rename_i hjk
    obtain ⟨hj1, rfl⟩ := List.getElem?_eq_some_iff.1 hj; obtain ⟨hx1, rfl⟩ := List.getElem?_eq_some_iff.1 hx; obtain ⟨hy1, rfl⟩ := List.getElem?_eq_some_iff.1 hy; have hlast := List.pairwise_iff_getElem.1 hs k (k + 1) hy1 hx1 (by omega)
    have hxy : lexB (f al[k]) (f al[k + 1]) = true := by
     cases e : lexB (f al[k]) (f al[k + 1]) with
     | true => rfl
     | false => exact absurd (jVv _ _ e hlast) he
    rcases Nat.lt_or_ge j k with h | h
    ·have hjk2 := List.pairwise_iff_getElem.1 hs j k hj1 hy1 h
     cases e : lexB (f al[j]) (f al[k + 1]) with
     | true => rfl
     | false =>
      have h4 : lexB (f al[k]) (f al[k + 1]) = false := jY3H hjk2 e; rw [hxy] at h4; cases h4
    ·have : j = k := by omega
     subst this; exact hxy
   ·cases hj
theorem cp_dst {α : Type} (f : α -> List Int) {al al0 : List α} (hp : al.Perm al0) (hs : al.Pairwise (fun a b => lexB (f b) (f a) = false)) : (cpK f al al.length).map f = dstF (al0.map f) := by
 obtain ⟨h1, h2⟩ := jY57 f al hs al.length (Nat.le_refl _)
 obtain ⟨h3, h4⟩ := jY54 (al0.map f)
 refine jY3L h1 h3 (fun x => ?_)
 rw [h2, h4, List.take_length]
 exact (hp.map f).mem_iff
end
section
open Go.RowKit
def subL (p q : List Int) : List Int := List.zipWith (fun a b => a - b) p q
theorem jY5y {p q : List Int} {k : Nat} {x y : Int} (hx : p[k]? = some x) (hy : q[k]? = some y) : (subL p q)[k]? = some (x - y) := by simp [subL, List.getElem?_zipWith, hx, hy]
theorem jY0W {p q : List Int} {n : Nat} (hp : p.length = n) (hq : q.length = n) : (subL p q).length = n := by simp [subL, hp, hq]
theorem jY2u (p q : Option Addr) (n c d : Nat) (xs ys : List Int) (w : World) (hx : xs.length = n) (hy : ys.length = n) (hn : n <= 1000) (hs : IntsAt w (.slice p n c) xs) (ht : IntsAt w (.slice q n d) ys) (hbx : ∀ x ∈ xs, -1000000 <= x /\ x <= 1000000) (hby : ∀ x ∈ ys, -1000000 <= x /\ x <= 1000000) :
  Calls Tryz.prog 114 #[.slice p n c, .slice q n d] w fun e w' => (∃ v', e = .returned v' /\ jZ1 w.heap.size w' v' (subL xs ys)) /\ Ext w w' := by
 obtain ⟨-, hc⟩ := hs.cl
 obtain ⟨-, hd⟩ := ht.cl
 have HX := hid hx; have HY := hid hy; have HC := hid hc; have HD := hid hd; have HBX := hid hbx; have HBY := hid hby
 have HSL : Hid ((subL xs ys).length = n) := hid (jY0W hx hy)
 clear hx hy hc hd hs ht hbx hby
 go_enter Tryz.func114, Tryz.ntmps114
 go_wp2
 go_loopw [5, 6] (fun ov iv wr => ∃ (k : Nat) (r : Option Addr) (cc : Nat), k <= n /\ iv = .int .i64 k /\ ov = .slice r k cc /\ wr.ownsRow w.heap.size 3 1 (.slice r k cc) k (((subL xs ys).take k).map (Value.int .i64)) /\ Ext w wr) (fun _ iv _ => n - (intOf iv).toNat)
 case atStart => exact ⟨0, some ⟨w.heap.size, 0, none⟩, 0, by omega, rfl, rfl, World.ownsRow_made w #[] 0 (Nat.le_refl _) (Nat.zero_le _) rfl, (Ext.refl w).alloc _⟩
 case round =>
  obtain ⟨k, r, cc, hk, rfl, rfl, ho, hE⟩ := hrel; have HO := hid ho; have HE := hid hE; clear ho hE; by_cases hlt : k < n
  ·obtain ⟨x, hx⟩ := jZ0 (xs := xs) (k := k) (by rw [HX.o]; exact hlt)
   obtain ⟨y, hy⟩ := jZ0 (xs := ys) (k := k) (by rw [HY.o]; exact hlt); obtain ⟨b, off, rfl, hcx⟩ := HC.o k x hx; obtain ⟨b2, off2, rfl, hcy⟩ := HD.o k y hy; have c1 := HE.o.keep hcx; have c2 := HE.o.keep hcy; have hb1 := HBX.o x (List.mem_of_getElem? hx); have hb2 := HBY.o y (List.mem_of_getElem? hy); have hwv : IntKind.i64.wrap (x - y) = x - y := IntWalk.i64_in _ (by omega); have HZ := hid (jY5y hx hy); have hkI : (k : Int) < (n : Int) := by omega
   have hwr := HE.o.size_le; have HCX := hid hcx; have HCY := hid hcy; clear hx hy hcx hcy; go_wp2_with (fail)
   go_region_held3 (fun W => W.cell? ⟨b, off + k, none⟩ = some (.int .i64 x) /\ W.cell? ⟨b2, off2 + k, none⟩ = some (.int .i64 y))
    (first | exact ⟨c1, c2⟩ | exact ⟨((Ext.refl wr).alloc _).keep c1, ((Ext.refl wr).alloc _).keep c2⟩ | exact ⟨g3.keep HCX.o, g3.keep HCY.o⟩ | fail)
    (first | (refine jY4X rfl (.tmp 14) (.tmp 24) rfl w.heap.size k r cc _ (x - y) wr.heap.size 0 rfl rfl (jZ3 HO.o (by first | exact ((Ext.refl wr).alloc _).drew | exact ((Ext.refl wr).drew).alloc _)) (by first | exact (Ext.refl _).drew.keep (new0 wr _ [] 3) | exact new0 wr _ [] 3) (by omega) (by first | (show w.heap.size <= (wr.alloc _).heap.size; simp; omega) | (simp; omega)) ?_; intro g cap w4 hown hgrow; have g3 : Ext w w4 := ((HE.o.alloc (.cells #[.int .i64 (x - y)] 3)).drew).grown hgrow (fun b hb => (HO.o.lt b hb).1)) | fail)
   have HO4 : Hid (w4.ownsRow w.heap.size 3 1 (.slice (some ⟨g, 0, none⟩) (k + 1) cap) (k + 1) (((subL xs ys).take (k + 1)).map (Value.int .i64))) := hid (by rw [jZ6 HZ.o]; exact hown); have G3 := hid g3; clear hown hgrow g3 c1 c2; go_wp2; go_roundw
   case rel => exact ⟨k + 1, _, cap, by omega, by go_num, rfl, HO4.o, G3.o⟩
   case measure => simp [intOf]; omega
  ·obtain rfl : k = n := by omega
   have HR : Hid (jZ1 w.heap.size wr (.slice r k cc) (subL xs ys)) := hid (jZ1.mk (by have h := HO.o; rwa [List.take_of_length_le (by rw [HSL.o]; omega)] at h) HSL.o); go_wp2; go_ret; exact ⟨⟨_, rfl, HR.o⟩, HE.o⟩
theorem jY4I {d x : List Int} {t : List (List Int)} : l6St d (t ++ [x]) = if t.any (fun x => lexB d x) = true then l6St d t ++ [x] else if lexB d x = true then t ++ [d, x] else t ++ [x] := by
 unfold l6St
 by_cases h : t.any (fun x => lexB d x) = true
 ·rw [if_pos h, if_pos h, if_pos (by simp [List.any_append, h]), jWz h]
 ·rw [if_neg h]
  by_cases hx : lexB d x = true
  ·rw [if_pos (by simp [List.any_append, hx]), if_pos hx, jVd hx (by simpa using h)]
  ·rw [if_neg (by simp only [List.any_append, List.any_cons, List.any_nil, Bool.or_false, Bool.or_eq_true, not_or]; exact ⟨h, hx⟩), if_neg hx]
theorem jY5M {d : List Int} {l : List (List Int)} (h : d ∉ l) : addL l d = if l.any (fun x => lexB d x) = true then l6St d l else l6St d l ++ [d] := by
 unfold addL l6St
 rw [if_neg h]
 by_cases ha : l.any (fun x => lexB d x) = true
 ·rw [if_pos ha, if_pos ha]
 ·rw [if_neg ha, if_neg ha, jY59 (by simpa using ha)]
theorem jY60 (d : List Int) (t : List (List Int)) : (l6St d t).length <= t.length + 1 := by unfold l6St; split; (rw [jY1c]; omega); omega
theorem jY2W {d x : List Int} {t : List (List Int)} (h : d ∉ t) (hx : x ≠ d) : d ∉ t ++ [x] := by
 intro hm
 rcases List.mem_append.1 hm with hm | hm
 ·exact h hm
 ·simp at hm; exact hx hm.symm
def PtsW (Bo B : Nat) (w : World) (v : Value) (xss : List (List Int)) : Prop := ∃ vs, w.ownsRow Bo 39 1 v xss.length vs /\ ∀ (i : Nat) (xs : List Int), xss[i]? = some xs -> ∃ u : Value, vs[i]? = some u /\ jZ1 B w u xs
theorem PtsW.pts {Bo B : Nat} {w : World} {v : Value} {xss : List (List Int)} (h : PtsW Bo B w v xss) (hB : B <= Bo) : PtsOwn B w v xss := by
 obtain ⟨vs, h1, h2⟩ := h
 exact ⟨vs, jZ7 h1 hB, h2⟩
theorem PtsW.ext {Bo B : Nat} {w w' : World} {v : Value} {xss : List (List Int)} (h : PtsW Bo B w v xss) (hE : Ext w w') : PtsW Bo B w' v xss := by
 obtain ⟨vs, ho, he⟩ := h
 exact ⟨vs, jZ3 ho hE, fun i xs hi => by obtain ⟨u, h0, h1⟩ := he i xs hi; exact ⟨u, h0, h1.ext hE⟩⟩
theorem PtsW.push {Bo B m : Nat} {w w' : World} {v v' u : Value} {xss : List (List Int)} {ps : List Int} {vs : List Value} (hm : xss.length = m) (he : ∀ (i : Nat) (xs : List Int), xss[i]? = some xs -> ∃ u : Value, vs[i]? = some u /\ jZ1 B w u xs) (hvl : vs.length = m)
  (ho' : w'.ownsRow Bo 39 1 v' (m + 1) (vs ++ [u])) (hg : w.grownBy w' v.ownBlock) (ht : Tag w v.ownBlock 39) (hx : jZ1 B w u ps) : PtsW Bo B w' v' (xss ++ [ps]) := by
 refine ⟨vs ++ [u], by rw [List.length_append, hm]; exact ho', fun i xs hi => ?_⟩
 rcases Nat.lt_or_ge i xss.length with hlt | hge
 ·rw [List.getElem?_append_left hlt] at hi
  obtain ⟨u', h0, h1⟩ := he i xs hi; exact ⟨u', by rw [List.getElem?_append_left (by omega)]; exact h0, h1.tag hg ht (by decide)⟩
 ·rw [List.getElem?_append_right hge] at hi
  have hi0 : i - xss.length = 0 := by
   rcases Nat.eq_zero_or_pos (i - xss.length) with h | h
   ·exact h
   ·rw [List.getElem?_eq_none (by simp; omega)] at hi; cases hi
  rw [hi0] at hi; simp at hi; subst hi; have hin : i = m := by omega
  subst hin; exact ⟨u, by rw [List.getElem?_append_right (by omega)]; simp [hvl], hx.tag hg ht (by decide)⟩
theorem jY53 (B : Nat) (p : Option Addr) (n c0 : Nat) (r : Option Addr) (L cr : Nat) (xss : List (List Int)) (d : List Int) (w : World) (hn : xss.length = n) (hn2 : n <= 20000) (hl : PtsOwn B w (.slice p n c0) xss) (hB : B <= w.heap.size) (hd : jZ1 B w (.slice r L cr) d) :
  Calls Tryz.prog 113 #[.slice p n c0, .slice r L cr] w fun e w' => (∃ v', e = .returned v' /\ PtsOwn B w' v' (addL xss d)) /\ Ext w w' := by
 obtain ⟨j0, hj0, hj1, hj2, hj3⟩ := info_parts infoSS
 have HN := hid hn; have HL := hid hl; have HD := hid hd
 clear hn hl hd
 have HO0 : Hid (PtsW w.heap.size B (w.alloc (.cells #[] 39)) (.slice (some ⟨w.heap.size, 0, none⟩) 0 0) []) := hid ⟨[], World.ownsRow_made w #[] 0 (Nat.le_refl _) (Nat.zero_le _) rfl, fun i xs h => by simp at h⟩
 go_enter Tryz.func113, Tryz.ntmps113
 go_wp2
 go_loopw [5, 6, 7] (fun ov dv iv wr => ∃ (k : Nat) (q : Option Addr) (m c : Nat), k <= n /\ iv = .int .i64 k /\ ov = .slice q m c /\ (l6St d (xss.take k)).length = m /\ dv = .bool ((xss.take k).any (fun x => lexB d x)) /\ d ∉ xss.take k /\ PtsW w.heap.size B wr (.slice q m c) (l6St d (xss.take k)) /\ Ext w wr) (fun _ _ iv _ => n - (intOf iv).toNat)
 case atStart => exact ⟨0, _, 0, 0, by omega, rfl, rfl, by simp [l6St], by simp, by simp, by simpa [l6St] using HO0.o, (Ext.refl w).alloc _⟩
 case round =>
  obtain ⟨k, q, m, c, hk, rfl, rfl, hm, rfl, hni, hpw, hE⟩ := hrel
  have hmb : m <= 20001 := by
   have h1 := jY60 d (xss.take k); rw [List.length_take] at h1; omega
  obtain ⟨db, hdb⟩ : ∃ db, (xss.take k).any (fun x => lexB d x) = db := ⟨_, rfl⟩; rw [hdb]; have HM := hid hm; have HDB := hid hdb; have HNI := hid hni; have HPW := hid hpw; have HE := hid hE; clear hm hdb hni hpw hE HO0; by_cases hlt : k < n
  ·obtain ⟨x, hx⟩ := jZ0 (xs := xss) (k := k) (by rw [HN.o]; exact hlt)
   obtain ⟨g, u, rfl, cu, hu⟩ := HL.o.at2 hx; obtain ⟨pu, cu', rfl⟩ := jWN hu; obtain ⟨lx, hlx⟩ : ∃ n, x.length = n := ⟨_, rfl⟩; rw [hlx] at hu cu; have HX := hid hx; have HU := hid hu; have HCU := hid cu; have cu0 := HE.o.keep cu; have hkI : (k : Int) < (n : Int) := by omega
   clear hx hu hlx cu; go_wp2_with (fail); refine (jY4b _ _ x d wr (HU.o.at.ext HE.o) (HD.o.at.ext HE.o)).mono ?_; rintro e w1 ⟨rfl, hE1⟩; have E1 := hid (HE.o.trans hE1); have HP1 := hid (HPW.o.ext hE1); clear hE1 cu0; by_cases hxd : x = d
   ·have hb : eqB x d = true := by simp [eqB, hxd]
    have HR : Hid (addL xss d = xss) := hid (by unfold addL; rw [if_pos (by rw [<- hxd]; exact List.mem_of_getElem? HX.o)]); rw [hb]; clear hb hxd; go_wp2; go_ret; exact ⟨⟨_, rfl, by rw [HR.o]; exact HL.o.ext E1.o⟩, E1.o⟩
   ·have hb : eqB x d = false := by simp [eqB, hxd]
    have HNX : Hid (d ∉ xss.take (k + 1)) := hid (by rw [jZ6 HX.o]; exact jY2W HNI.o hxd); have HAN : Hid ((xss.take (k + 1)).any (fun x => lexB d x) = (db || lexB d x)) := hid (by rw [jZ6 HX.o, List.any_append, HDB.o]; simp)
    have HSN : Hid (l6St d (xss.take (k + 1)) = if db = true then l6St d (xss.take k) ++ [x] else if lexB d x = true then l6St d (xss.take k) ++ [d] ++ [x] else l6St d (xss.take k) ++ [x]) := hid (by
     rw [jZ6 HX.o, jY4I, HDB.o]; by_cases h : db = true
     ·rw [if_pos h, if_pos h]
     ·have e : l6St d (xss.take k) = xss.take k := by unfold l6St; rw [HDB.o, if_neg h]
      rw [if_neg h, if_neg h, e, List.append_assoc]; rfl)
    rw [hb]; clear hb hxd; have cu1 := E1.o.keep HCU.o; cases db with
    | true =>
     have HEL := hid (HU.o.ext E1.o); have HPAa := hid (HP1.o.ext ((Ext.refl w1).alloc (.cells #[.slice pu lx cu'] 39))); obtain ⟨vsa, hoa, hea⟩ := HPAa.o; rw [HM.o] at hoa; have hvla := hoa.1; rw [Nat.mul_one] at hvla; have HHEa := hid hea; have hEsa := E1.o.size_le; clear hea; go_wp2_with (at_builtin; refine wpList_append_own_at _ rfl (.tmp 36) (.tmp 41) 46 rfl w.heap.size 39 j0 (.slice none 0 0) 1 24 jXl hj0 hj1 hj2 hj3 rfl (by decide) (.slice q m c) m vsa rfl hoa ⟨(w1).heap.size, 0, none⟩ 1 1 [.slice pu lx cu'] rfl rfl ?e1a ?e2a ?e3a ?e4a ?e5a ?_)
     case e1a => exact jZz (by simp)
     case e2a => intro u hu; simp at hu; subst hu; rfl
     case e3a => unfold maxLen; omega
     case e4a => omega
     case e5a => simp; omega
     intro v2 w6a hown2 hgrow2 hnil2 hat2; obtain ⟨gqa, dqa, rfl, hdq⟩ := jZd hown2 (by first | exact hnil2 | exact fun e => by have := (hnil2.1 e).2; omega); have HPNa := hid (PtsW.push HM.o HHEa.o hvla hown2 hgrow2 (jZx hoa) (HEL.o.ext ((Ext.refl _).alloc _))); have E6a := hid ((E1.o.alloc (.cells #[.slice pu lx cu'] 39)).grown hgrow2 (fun b hb => (hoa.lt b hb).1)); clear hown2 hgrow2 hnil2 hat2 hoa hvla hdq hEsa; have HSN2 : Hid (l6St d (xss.take (k + 1)) = l6St d (xss.take k) ++ [x]) := hid (by rw [HSN.o]; simp); have HLL : Hid ((l6St d (xss.take (k + 1))).length = m + 1) := hid (by rw [HSN2.o, List.length_append, HM.o]; rfl); have HPP : Hid (PtsW w.heap.size B w6a (.slice (some ⟨gqa, 0, none⟩) (m + 1) dqa) (l6St d (xss.take (k + 1)))) := hid (by rw [HSN2.o]; exact HPNa.o); clear cu1; go_wp2; go_roundw
     case rel => exact ⟨k + 1, _, m + 1, _, by omega, by go_num, rfl, HLL.o, by rw [HAN.o]; rfl, HNX.o, HPP.o, E6a.o⟩
     case measure => simp [intOf]; omega
    | false =>
     go_wp2_with (fail); refine (jY01 _ _ d x w1 (HD.o.at.ext E1.o) (HU.o.at.ext E1.o)).mono ?_; rintro e w2 ⟨rfl, hE2⟩; have E2 := hid (E1.o.trans hE2); have HP2 := hid (HP1.o.ext hE2); obtain ⟨lb, hlb⟩ : ∃ lb, lexB d x = lb := ⟨_, rfl⟩; rw [hlb] at HSN HAN ⊢; clear hE2 cu1 hlb; have HELx := hid (HU.o.ext E2.o); have HELd := hid (HD.o.ext E2.o); have cu2 := E2.o.keep HCU.o; cases lb with
     | true =>
      have HPAb := hid (HP2.o.ext ((Ext.refl w2).alloc (.cells #[.slice r L cr] 39))); obtain ⟨vsb, hob, heb⟩ := HPAb.o; rw [HM.o] at hob; have hvlb := hob.1; rw [Nat.mul_one] at hvlb; have HHEb := hid heb; have hEsb := E2.o.size_le; clear heb; go_wp2_with (at_builtin; refine wpList_append_own_at _ rfl (.tmp 32) (.tmp 34) 46 rfl w.heap.size 39 j0 (.slice none 0 0) 1 24 jXl hj0 hj1 hj2 hj3 rfl (by decide) (.slice q m c) m vsb rfl hob ⟨(w2).heap.size, 0, none⟩ 1 1 [.slice r L cr] rfl rfl ?e1b ?e2b ?e3b ?e4b ?e5b ?_)
      case e1b => exact jZz (by simp)
      case e2b => intro u hu; simp at hu; subst hu; rfl
      case e3b => unfold maxLen; omega
      case e4b => omega
      case e5b => simp; omega
      intro v2 w6b hown2 hgrow2 hnil2 hat2; obtain ⟨gqb, dqb, rfl, hdq⟩ := jZd hown2 (by first | exact hnil2 | exact fun e => by have := (hnil2.1 e).2; omega); have HPNb := hid (PtsW.push HM.o HHEb.o hvlb hown2 hgrow2 (jZx hob) (HELd.o.ext ((Ext.refl _).alloc _))); have E6b := hid ((E2.o.alloc (.cells #[.slice r L cr] 39)).grown hgrow2 (fun b hb => (hob.lt b hb).1)); clear hown2 hgrow2 hnil2 hat2 hob hvlb hdq hEsb; have HMb : Hid ((l6St d (xss.take k) ++ [d]).length = m + 1) := hid (by rw [List.length_append, HM.o]; rfl); have HELy := hid (HU.o.ext E6b.o); clear cu2; have cu3 := E6b.o.keep HCU.o; have HPAc := hid (HPNb.o.ext ((Ext.refl w6b).alloc (.cells #[.slice pu lx cu'] 39))); obtain ⟨vsc, hoc, hec⟩ := HPAc.o; rw [HMb.o] at hoc; have hvlc := hoc.1; rw [Nat.mul_one] at hvlc; have HHEc := hid hec; have hEsc := E6b.o.size_le; clear hec; go_wp2_with (at_builtin; refine wpList_append_own_at _ rfl (.tmp 36) (.tmp 41) 46 rfl w.heap.size 39 j0 (.slice none 0 0) 1 24 jXl hj0 hj1 hj2 hj3 rfl (by decide) (.slice (some ⟨gqb, 0, none⟩) (m + 1) dqb) (m + 1) vsc rfl hoc ⟨(w6b).heap.size, 0, none⟩ 1 1 [.slice pu lx cu'] rfl rfl ?e1c ?e2c ?e3c ?e4c ?e5c ?_)
      case e1c => exact jZz (by simp)
      case e2c => intro u hu; simp at hu; subst hu; rfl
      case e3c => unfold maxLen; omega
      case e4c => omega
      case e5c => simp; omega
      intro v2 w6c hown2 hgrow2 hnil2 hat2; obtain ⟨gqc, dqc, rfl, hdq⟩ := jZd hown2 (by first | exact hnil2 | exact fun e => by have := (hnil2.1 e).2; omega); have HPNc := hid (PtsW.push HMb.o HHEc.o hvlc hown2 hgrow2 (jZx hoc) (HELy.o.ext ((Ext.refl _).alloc _))); have E6c := hid ((E6b.o.alloc (.cells #[.slice pu lx cu'] 39)).grown hgrow2 (fun b hb => (hoc.lt b hb).1)); clear hown2 hgrow2 hnil2 hat2 hoc hvlc hdq hEsc; have HSN2 : Hid (l6St d (xss.take (k + 1)) = l6St d (xss.take k) ++ [d] ++ [x]) := hid (by rw [HSN.o]; simp); have HLL : Hid ((l6St d (xss.take (k + 1))).length = m + 1 + 1) := hid (by rw [HSN2.o, List.length_append, HMb.o]; rfl); have HPP : Hid (PtsW w.heap.size B w6c (.slice (some ⟨gqc, 0, none⟩) (m + 1 + 1) dqc) (l6St d (xss.take (k + 1)))) := hid (by rw [HSN2.o]; exact HPNc.o); clear cu3; go_wp2; go_roundw
      case rel => exact ⟨k + 1, _, m + 1 + 1, _, by omega, by go_num, rfl, HLL.o, by rw [HAN.o]; rfl, HNX.o, HPP.o, E6c.o⟩
      case measure => simp [intOf]; omega
     | false =>
      have HPAd := hid (HP2.o.ext ((Ext.refl w2).alloc (.cells #[.slice pu lx cu'] 39))); obtain ⟨vsd, hod, hed⟩ := HPAd.o; rw [HM.o] at hod; have hvld := hod.1; rw [Nat.mul_one] at hvld; have HHEd := hid hed; have hEsd := E2.o.size_le; clear hed; go_wp2_with (at_builtin; refine wpList_append_own_at _ rfl (.tmp 36) (.tmp 41) 46 rfl w.heap.size 39 j0 (.slice none 0 0) 1 24 jXl hj0 hj1 hj2 hj3 rfl (by decide) (.slice q m c) m vsd rfl hod ⟨(w2).heap.size, 0, none⟩ 1 1 [.slice pu lx cu'] rfl rfl ?e1d ?e2d ?e3d ?e4d ?e5d ?_)
      case e1d => exact jZz (by simp)
      case e2d => intro u hu; simp at hu; subst hu; rfl
      case e3d => unfold maxLen; omega
      case e4d => omega
      case e5d => simp; omega
      intro v2 w6d hown2 hgrow2 hnil2 hat2; obtain ⟨gqd, dqd, rfl, hdq⟩ := jZd hown2 (by first | exact hnil2 | exact fun e => by have := (hnil2.1 e).2; omega); have HPNd := hid (PtsW.push HM.o HHEd.o hvld hown2 hgrow2 (jZx hod) (HELx.o.ext ((Ext.refl _).alloc _))); have E6d := hid ((E2.o.alloc (.cells #[.slice pu lx cu'] 39)).grown hgrow2 (fun b hb => (hod.lt b hb).1)); clear hown2 hgrow2 hnil2 hat2 hod hvld hdq hEsd; have HSN2 : Hid (l6St d (xss.take (k + 1)) = l6St d (xss.take k) ++ [x]) := hid (by rw [HSN.o]; simp); have HLL : Hid ((l6St d (xss.take (k + 1))).length = m + 1) := hid (by rw [HSN2.o, List.length_append, HM.o]; rfl); have HPP : Hid (PtsW w.heap.size B w6d (.slice (some ⟨gqd, 0, none⟩) (m + 1) dqd) (l6St d (xss.take (k + 1)))) := hid (by rw [HSN2.o]; exact HPNd.o); clear cu2; go_wp2; go_roundw
      case rel => exact ⟨k + 1, _, m + 1, _, by omega, by go_num, rfl, HLL.o, by rw [HAN.o]; rfl, HNX.o, HPP.o, E6d.o⟩
      case measure => simp [intOf]; omega
  ·obtain rfl : k = n := by omega
   have hall : xss.take k = xss := List.take_of_length_le (by rw [HN.o]; omega); have HNI2 : Hid (d ∉ xss) := hid (by rw [<- hall]; exact HNI.o); have HDB2 : Hid (xss.any (fun x => lexB d x) = db) := hid (by rw [<- hall]; exact HDB.o); have HM2 : Hid ((l6St d xss).length = m) := hid (by rw [<- hall]; exact HM.o); have HP2 : Hid (PtsW w.heap.size B wr (.slice q m c) (l6St d xss)) := hid (by rw [<- hall]; exact HPW.o); have HADD := hid (jY5M HNI2.o); clear hall; cases db with
   | true =>
    have HR : Hid (PtsOwn B wr (.slice q m c) (addL xss d)) := hid (by have h := HADD.o; rw [HDB2.o] at h; simp only [if_true] at h; rw [h]; exact HP2.o.pts hB); go_wp2; go_ret; exact ⟨⟨_, rfl, HR.o⟩, HE.o⟩
   | false =>
    have HELd := hid (HD.o.ext HE.o); have HPAf := hid (HP2.o.ext ((Ext.refl wr).alloc (.cells #[.slice r L cr] 39))); obtain ⟨vsf, hof, hef⟩ := HPAf.o; rw [HM2.o] at hof; have hvlf := hof.1; rw [Nat.mul_one] at hvlf; have HHEf := hid hef; have hEsf := HE.o.size_le; clear hef; go_wp2_with (at_builtin; refine wpList_append_own_at _ rfl (.tmp 45) (.tmp 47) 46 rfl w.heap.size 39 j0 (.slice none 0 0) 1 24 jXl hj0 hj1 hj2 hj3 rfl (by decide) (.slice q m c) m vsf rfl hof ⟨(wr).heap.size, 0, none⟩ 1 1 [.slice r L cr] rfl rfl ?e1f ?e2f ?e3f ?e4f ?e5f ?_)
    case e1f => exact jZz (by simp)
    case e2f => intro u hu; simp at hu; subst hu; rfl
    case e3f => unfold maxLen; omega
    case e4f => omega
    case e5f => simp; omega
    intro v2 w6f hown2 hgrow2 hnil2 hat2; obtain ⟨gqf, dqf, rfl, hdq⟩ := jZd hown2 (by first | exact hnil2 | exact fun e => by have := (hnil2.1 e).2; omega); have HPNf := hid (PtsW.push HM2.o HHEf.o hvlf hown2 hgrow2 (jZx hof) (HELd.o.ext ((Ext.refl _).alloc _))); have E6f := hid ((HE.o.alloc (.cells #[.slice r L cr] 39)).grown hgrow2 (fun b hb => (hof.lt b hb).1)); clear hown2 hgrow2 hnil2 hat2 hof hvlf hdq hEsf; have HR : Hid (PtsOwn B w6f (.slice (some ⟨gqf, 0, none⟩) (m + 1) dqf) (addL xss d)) := hid (by have h := HADD.o; rw [HDB2.o] at h; simp only [Bool.false_eq_true, if_false] at h; rw [h]; exact HPNf.o.pts hB); go_wp2; go_ret; exact ⟨⟨_, rfl, HR.o⟩, E6f.o⟩
end
section
open Go.RowKit Go.Maps
theorem jZs.at2 {B n c i : Nat} {w : World} {p : Option Addr} {ps : List Pt} {x : Pt} (h : jZs B w (.slice p n c) ps) (hn : ps.length = n) (hi : ps[i]? = some x) :
  ∃ g u0 u1, p = some ⟨g, 0, none⟩ /\ g < w.heap.size /\ w.cell? ⟨g, i * 2, none⟩ = some u0 /\ w.cell? ⟨g, i * 2 + 1, none⟩ = some u1 /\ PartP B w u0 u1 x := by
 obtain ⟨vs, ho, he⟩ := h
 obtain ⟨u0, u1, h0, h1, hr⟩ := he i x hi
 have ho2 := ho.2
 rcases ho2 with ⟨e, hz⟩ | ⟨g, cap, cur, e, _, hg, _⟩
 ·have := (List.getElem?_eq_some_iff.1 hi).1; omega
 ·cases e
  have hc : ∀ j u, vs[j]? = some u -> w.cell? ⟨g, j, none⟩ = some u := fun j u hu => by
   have h := World.ownsRow.cells ho (g := g) rfl j u hu; have hadd : (⟨g, 0, none⟩ : Addr).add j = ⟨g, j, none⟩ := by unfold Addr.add; split <;> simp_all
   rw [hadd] at h; exact h
  exact ⟨g, u0, u1, rfl, lt_of_block hg, hc _ _ h0, hc _ _ h1, hr⟩
def FfL (C : Nat -> Prop) (B : Nat) (w1 : World) (mo : Option Nat) (T : Int) (B' : Nat) (W : World) (v : Value) (ss : List St) : Prop :=
 ∃ vs, W.ownsRow B' 264 1 v ss.length vs /\ ∀ (i : Nat) (s : St), ss[i]? = some s -> ∃ f, vs[i]? = some f /\ FnR C B w1 mo T W f s.2.2
theorem FfL.nil (C : Nat -> Prop) (B : Nat) (w1 : World) (mo : Option Nat) (T : Int) (B' : Nat) (W : World) : FfL C B w1 mo T B' W (.slice none 0 0) [] := ⟨[], World.ownsRow_nil _ _ _ _, fun i s h => by simp at h⟩
theorem FfL.ext {C : Nat -> Prop} {B : Nat} {w1 : World} {mo : Option Nat} {T : Int} {B' : Nat} {W W' : World} {v : Value} {ss : List St} (h : FfL C B w1 mo T B' W v ss) (hE : Ext W W') : FfL C B w1 mo T B' W' v ss := by
 obtain ⟨vs, h1, h2⟩ := h
 exact ⟨vs, jZ3 h1 hE, fun i s hi => by obtain ⟨f, a, b⟩ := h2 i s hi; exact ⟨f, a, b.ext hE⟩⟩
theorem FfL.form {C : Nat -> Prop} {B : Nat} {w1 : World} {mo : Option Nat} {T : Int} {B' : Nat} {W : World} {v : Value} {ss : List St} (h : FfL C B w1 mo T B' W v ss) : ∃ p c, v = .slice p ss.length c := by
 obtain ⟨vs, ho, _⟩ := h
 rcases ho.2 with ⟨rfl, hn⟩ | ⟨g, cap, cur, rfl, _⟩
 ·exact ⟨none, 0, by rw [hn]⟩
 ·exact ⟨_, _, rfl⟩
theorem FfL.push {C C1 C2 : Nat -> Prop} {B : Nat} {w1 : World} {mo : Option Nat} {T : Int} {B' k : Nat} {W W3 W5 : World} {v' f : Value} {ss : List St} {s : St} {vs : List Value} (hk : ss.length = k) (hvl : vs.length = k) (he : ∀ (i : Nat) (s : St), ss[i]? = some s -> ∃ f, vs[i]? = some f /\ FnR C B w1 mo T W f s.2.2)
  (hK : KeepC C W W5) (hf : FnR C1 B w1 mo T W3 f s.2.2) (hK1 : KeepC C1 W3 W5) (h1 : ∀ g, C g -> C2 g) (h2 : ∀ g, C1 g -> C2 g) (ho : W5.ownsRow B' 264 1 v' (k + 1) (vs ++ [f])) : FfL C2 B w1 mo T B' W5 v' (ss ++ [s]) := by
 refine ⟨vs ++ [f], by rw [List.length_append, hk]; exact ho, fun i x hi => ?_⟩
 rcases Nat.lt_or_ge i k with hlt | hge
 ·rw [List.getElem?_append_left (by omega)] at hi
  obtain ⟨f0, a, b⟩ := he i x hi; exact ⟨f0, by rw [List.getElem?_append_left (by omega)]; exact a, (b.keep hK).mono h1⟩
 ·rw [List.getElem?_append_right (by omega)] at hi
  have hi0 : i = k := by
   rcases Nat.eq_or_lt_of_le hge with h | h
   ·exact h.symm
   ·rw [List.getElem?_eq_none (by simp; omega)] at hi; cases hi
  subst hi0; rw [hk, Nat.sub_self] at hi; simp at hi; subst hi; exact ⟨f, by rw [List.getElem?_append_right (by omega)]; simp [hvl], (hf.keep hK1).mono h2⟩
theorem FfL.mono {C C2 : Nat -> Prop} {B : Nat} {w1 : World} {mo : Option Nat} {T : Int} {B' : Nat} {W : World} {v : Value} {ss : List St} (h : FfL C B w1 mo T B' W v ss) (hC : ∀ g, C g -> C2 g) : FfL C2 B w1 mo T B' W v ss := by
 obtain ⟨vs, h1, h2⟩ := h
 exact ⟨vs, h1, fun i s hi => by obtain ⟨f, a, b⟩ := h2 i s hi; exact ⟨f, a, b.mono hC⟩⟩
theorem own_ge2 {w : World} {B n : Nat} {t : TypeId} {v : Value} {xs : List Value} (h : w.ownsRow B t 1 v n xs) : ∀ b, v.ownBlock = some b -> B <= b /\ b < w.heap.size := by
 intro b hb
 rcases h.2 with ⟨rfl, -⟩ | ⟨g, cap, cur, rfl, hge, hg, _⟩
 ·simp [Value.ownBlock] at hb
 ·simp [Value.ownBlock] at hb; subst hb; exact ⟨hge, lt_of_block hg⟩
end
section
open Go.RowKit Go.Maps
def FsL (C : Nat -> Prop) (B : Nat) (w1 : World) (mo : Option Nat) (T : Int) (B' : Nat) (W : World) (v : Value) (ps : List Pt) : Prop :=
 ∃ vs, W.ownsRow B' 186 1 v ps.length vs /\ ∀ (i : Nat) (x : Pt), ps[i]? = some x -> ∃ f, vs[i]? = some f /\ FfL C B w1 mo T B' W f x.2 /\ ∀ b, f.ownBlock = some b -> C b
theorem FsL.nil (C : Nat -> Prop) (B : Nat) (w1 : World) (mo : Option Nat) (T : Int) (B' : Nat) (W : World) : FsL C B w1 mo T B' W (.slice none 0 0) [] := ⟨[], World.ownsRow_nil _ _ _ _, fun i s h => by simp at h⟩
theorem FfL.keep {C : Nat -> Prop} {B : Nat} {w1 : World} {mo : Option Nat} {T : Int} {B' : Nat} {W W' : World} {v : Value} {ss : List St} (h : FfL C B w1 mo T B' W v ss) (hv : ∀ b, v.ownBlock = some b -> C b) (hK : KeepC C W W') : FfL C B w1 mo T B' W' v ss := by
 obtain ⟨vs, h1, h2⟩ := h
 refine ⟨vs, ⟨h1.1, ?_⟩, fun i s hi => by obtain ⟨f, a, b⟩ := h2 i s hi; exact ⟨f, a, b.keep hK⟩⟩
 rcases h1.2 with h | ⟨g, cap, cur, rfl, hge, hg, hr⟩
 ·exact .inl h
 ·exact .inr ⟨g, cap, cur, rfl, hge, hK.blk (hv g rfl) hg, hr⟩
theorem FfL.weak {C : Nat -> Prop} {B : Nat} {w1 : World} {mo : Option Nat} {T : Int} {B' B2 : Nat} {W : World} {v : Value} {ss : List St} (h : FfL C B w1 mo T B' W v ss) (hB : B2 <= B') : FfL C B w1 mo T B2 W v ss := by
 obtain ⟨vs, h1, h2⟩ := h
 exact ⟨vs, jZ7 h1 hB, h2⟩
theorem FfL.own {C : Nat -> Prop} {B : Nat} {w1 : World} {mo : Option Nat} {T : Int} {B' : Nat} {W : World} {v : Value} {ss : List St} (h : FfL C B w1 mo T B' W v ss) : ∀ b, v.ownBlock = some b -> B' <= b /\ b < W.heap.size := by
 obtain ⟨vs, h1, -⟩ := h
 exact own_ge2 h1
theorem FsL.push {C C1 C2 : Nat -> Prop} {B : Nat} {w1 : World} {mo : Option Nat} {T : Int} {B' k : Nat} {W W3 W5 : World} {v' f : Value} {ps : List Pt} {s : Pt} {vs : List Value} (hk : ps.length = k) (hvl : vs.length = k)
  (he : ∀ (i : Nat) (x : Pt), ps[i]? = some x -> ∃ f, vs[i]? = some f /\ FfL C B w1 mo T B' W f x.2 /\ ∀ b, f.ownBlock = some b -> C b)
  (hK : KeepC C W W5) (hf : FfL C1 B w1 mo T B' W3 f s.2) (hfo : ∀ b, f.ownBlock = some b -> C1 b) (hK1 : KeepC C1 W3 W5) (h1 : ∀ g, C g -> C2 g) (h2 : ∀ g, C1 g -> C2 g) (ho : W5.ownsRow B' 186 1 v' (k + 1) (vs ++ [f])) : FsL C2 B w1 mo T B' W5 v' (ps ++ [s]) := by
 refine ⟨vs ++ [f], by rw [List.length_append, hk]; exact ho, fun i x hi => ?_⟩
 rcases Nat.lt_or_ge i k with hlt | hge
 ·rw [List.getElem?_append_left (by omega)] at hi
  obtain ⟨f0, a, b, c⟩ := he i x hi; exact ⟨f0, by rw [List.getElem?_append_left (by omega)]; exact a, (b.keep c hK).mono h1, fun g hg => h1 g (c g hg)⟩
 ·rw [List.getElem?_append_right (by omega)] at hi
  have hi0 : i = k := by
   rcases Nat.eq_or_lt_of_le hge with h | h
   ·exact h.symm
   ·rw [List.getElem?_eq_none (by simp; omega)] at hi; cases hi
  subst hi0; rw [hk, Nat.sub_self] at hi; simp at hi; subst hi; exact ⟨f, by rw [List.getElem?_append_right (by omega)]; simp [hvl], (hf.keep hfo hK1).mono h2, fun g hg => h2 g (hfo g hg)⟩
theorem FsL.keep {C : Nat -> Prop} {B : Nat} {w1 : World} {mo : Option Nat} {T : Int} {B' : Nat} {W W' : World} {v : Value} {ps : List Pt} (h : FsL C B w1 mo T B' W v ps) (hK : KeepC C W W') (hv : ∀ b, v.ownBlock = some b -> W'.heap[b]? = W.heap[b]?) : FsL C B w1 mo T B' W' v ps := by
 obtain ⟨vs, h1, h2⟩ := h
 refine ⟨vs, ⟨h1.1, ?_⟩, fun i s hi => by obtain ⟨f, a, b, c⟩ := h2 i s hi; exact ⟨f, a, b.keep c hK, c⟩⟩
 rcases h1.2 with h | ⟨g, cap, cur, rfl, hge, hg, hr⟩
 ·exact .inl h
 ·exact .inr ⟨g, cap, cur, rfl, hge, (hv g rfl).trans hg, hr⟩
theorem FsL.mono {C C2 : Nat -> Prop} {B : Nat} {w1 : World} {mo : Option Nat} {T : Int} {B' : Nat} {W : World} {v : Value} {ps : List Pt} (h : FsL C B w1 mo T B' W v ps) (hC : ∀ g, C g -> C2 g) : FsL C2 B w1 mo T B' W v ps := by
 obtain ⟨vs, h1, h2⟩ := h
 exact ⟨vs, h1, fun i s hi => by obtain ⟨f, a, b, c⟩ := h2 i s hi; exact ⟨f, a, b.mono hC, fun g hg => hC g (c g hg)⟩⟩
theorem blk4' {W : World} {g : Nat} {a b c d : Value} {t : TypeId} (h : W.heap[g]? = some (.cells #[a, b, c, d] t (0, 0))) : W.cell? ⟨g, 0, none⟩ = some a /\ W.cell? ⟨g, 1, none⟩ = some b /\ W.cell? ⟨g, 2, none⟩ = some c /\ W.cell? ⟨g, 3, none⟩ = some d /\ ∀ j, W.frozen? ⟨g, j, none⟩ = false := by
 simp [World.cell?, World.frozen?, h]
theorem blk6 {W : World} {g : Nat} {a b c d e f : Value} {t : TypeId} (h : W.heap[g]? = some (.cells #[a, b, c, d, e, f] t (0, 0))) : W.cell? ⟨g, 0, none⟩ = some a /\ W.cell? ⟨g, 1, none⟩ = some b /\ W.cell? ⟨g, 2, none⟩ = some c /\ W.cell? ⟨g, 3, none⟩ = some d /\ W.cell? ⟨g, 4, none⟩ = some e /\ W.cell? ⟨g, 5, none⟩ = some f /\ ∀ j, W.frozen? ⟨g, j, none⟩ = false := by
 simp [World.cell?, World.frozen?, h]
theorem jVx {W : World} {g : Nat} {a b c d e f a' b' c' d' e' f' : Value} {t : TypeId} (h : W.heap[g]? = some (.cells #[a, b, c, d, e, f] t (0, 0))) :
  ((((((W.setCell ⟨g, 0, none⟩ a').setCell ⟨g, 1, none⟩ b').setCell ⟨g, 2, none⟩ c').setCell ⟨g, 3, none⟩ d').setCell ⟨g, 4, none⟩ e').setCell ⟨g, 5, none⟩ f').heap[g]? = some (.cells #[a', b', c', d', e', f'] t (0, 0)) := by
 have h1 := heap_setCell_same W g 0 _ t a' h
 have h2 := heap_setCell_same _ g 1 _ t b' h1
 have h3 := heap_setCell_same _ g 2 _ t c' h2
 have h4 := heap_setCell_same _ g 3 _ t d' h3
 have h5 := heap_setCell_same _ g 4 _ t e' h4
 have h6 := heap_setCell_same _ g 5 _ t f' h5
 simpa using h6
theorem lv_set6 (W : World) (g : Nat) (a b c d e f : Value) : Lv (fun k => k = g) W ((((((W.setCell ⟨g, 0, none⟩ a).setCell ⟨g, 1, none⟩ b).setCell ⟨g, 2, none⟩ c).setCell ⟨g, 3, none⟩ d).setCell ⟨g, 4, none⟩ e).setCell ⟨g, 5, none⟩ f) :=
 ((jVX W g a b c d).trans (lv_set _ g 4 e) (fun _ _ h => h) (fun _ _ h => h)).trans (lv_set _ g 5 f) (fun _ _ h => h) (fun _ _ h => h)
theorem EvsOwn.lvB {D : Nat -> Prop} {B : Nat} {w w' : World} {v : Value} {es : List Ev} (h : EvsOwn B w v es) (hv : Lv D w w') (hD : ∀ b, D b -> b < B) : EvsOwn B w' v es := by
 obtain ⟨vs, h1, h2⟩ := h
 refine ⟨vs, row_lv h1 hv (fun b hb hd => by have h3 := (World.ownsRow.lt h1 b hb).1; have h4 := hD b hd; omega), fun i x hi => ?_⟩
 obtain ⟨u0, u1, u2, u3, u4, a0, a1, a2, a3, a4, hr⟩ := h2 i x hi
 refine ⟨u0, u1, u2, u3, u4, a0, a1, a2, a3, a4, hr.lv hv (fun b hb hd => ?_) (fun b hb hd => ?_)⟩
 ·obtain ⟨-, -, ⟨g, c, e, hi2⟩, -, -⟩ := hr
  have h3 := (World.ownsRow.lt hi2 b hb).1; have h4 := hD b hd; omega
 ·obtain ⟨-, -, -, hr2, -⟩ := hr
  have h3 := (World.ownsRow.lt hr2 b hb).1; have h4 := hD b hd; omega
theorem jZe.lvB {D : Nat -> Prop} {B : Nat} {w w' : World} {v : Value} {xs : List Aff} (h : jZe B w v xs) (hv : Lv D w w') (hD : ∀ b, D b -> b < B) : jZe B w' v xs := ⟨row_lv h.1 hv (fun b hb hd => by have h3 := (World.ownsRow.lt h.1 b hb).1; have h4 := hD b hd; omega), h.2⟩
theorem KeepC.trans {C : Nat -> Prop} {A B D : World} (h : KeepC C A B) (hs : A.heap.size <= B.heap.size) (k : KeepC C B D) : KeepC C A D := fun g hc hl => (k g hc (Nat.lt_of_lt_of_le hl hs)).trans (h g hc hl)
theorem Lv.cellAt {D : Nat -> Prop} {A B : World} {b o : Nat} {v : Value} (h : Lv D A B) (hc : A.cell? ⟨b, o, none⟩ = some v) (hn : ¬ D b) : B.cell? ⟨b, o, none⟩ = some v :=
 (World.cell?_of_block (a := ⟨b, o, none⟩) (h.block b (World.block_lt_of_cell? _ _ hc) hn)).trans hc
end
section
open Go.RowKit Go.Maps
def IMp (w : World) (b n : Nat) (F : Int -> Option Value) : Prop := ∃ D : DataW Value, w.ownsMap Tryz.prog 3 rawE b n D /\ ∀ c : Int, Maps.has D (.int .i64 c) = (F c).isSome /\ ∀ v, F c = some v -> ∀ z, D.atKey (.int .i64 c) z = .held v
theorem IMp.made (w : World) : IMp (w.alloc (.map #[] 0)) w.heap.size 0 (fun _ => none) :=
 ⟨.map [], World.ownsMap_made w Tryz.prog 3 rawE, fun c => ⟨rfl, fun v h => by cases h⟩⟩
theorem IMp.kept {w w' : World} {b n : Nat} {F : Int -> Option Value} {row : Option Nat} (h : IMp w b n F) (hg : w.grownBy w' row) (hne : some b ≠ row) : IMp w' b n F := by
 obtain ⟨D, h1, h2⟩ := h
 exact ⟨D, h1.kept hg hne, h2⟩
theorem IMp.ext {w w' : World} {b n : Nat} {F : Int -> Option Value} (h : IMp w b n F) (hE : Ext w w') : IMp w' b n F := h.kept (hE.grownBy none) (by simp)
theorem IMp.setCell {w : World} {b n : Nat} {F : Int -> Option Value} (h : IMp w b n F) {a : Addr} (ha : b ≠ a.block) (u : Value) : IMp (w.setCell a u) b n F := by
 obtain ⟨D, h1, h2⟩ := h
 exact ⟨D, h1.setCell ha u, h2⟩
theorem IMp.lt {w : World} {b n : Nat} {F : Int -> Option Value} (h : IMp w b n F) : b < w.heap.size := by obtain ⟨D, h1, -⟩ := h; exact h1.lt
end
end Go.Proofs.YtklehkkclojccaaGreat
