/- The texts G68 ShelfD G65 G40, joined. No statement is proved here. -/
import Derived.Test.YtklehkkclojccaaGreatQL47
import Derived.Test.YtklehkkclojccaaGreatQL42
import Derived.Shelf.SlSortCmp.Whole1
import Derived.Shelf.SlSortCmp.NoneTotal
import Derived.Ground.SlgfProg
import Derived.Shelf.SlicesE.IndexFunc
import Derived.Shelf.SlicesE.DeleteFunc
import Derived.Test.YtklehkkclojccaaGreatProg
import Derived.Test.YtklehkkclojccaaGreatQL52
import Derived.Test.YtklehkkclojccaaGreatQL18
import Derived.StillTailTactics
set_option maxRecDepth 100000
set_option maxHeartbeats 8000000
set_option linter.unusedVariables false
set_option linter.unusedSimpArgs false
namespace Go.Proofs.YtklehkkclojccaaGreat
open Go.Lib (hid)
open Go.RowKit Go.Sort
theorem jY3k {α : Type} {p : α -> Prop} : ∀ (al : List α), (∀ a ∈ al, p a) -> ∃ l : List {a // p a}, l.map (fun x => x.1) = al
 | [], _ => ⟨[], rfl⟩
 | a :: al, h => by
  obtain ⟨l, e⟩ := jY3k al (fun x hx => h x (by simp [hx])); exact ⟨⟨a, h a (by simp)⟩ :: l, by simp [e]⟩
theorem jY3a {α : Type} [Inhabited α] {ss : List α} {j : Nat} (hj : j < ss.length) : ss.toArray[j]! = ss[j] := by simp [hj]
theorem holdsG {α : Type} [Inhabited α] (enc : α -> Value) {B n c g : Nat} {t : TypeId} {w : World} {ss : List α} (h : w.ownsRow B t 1 (.slice (some ⟨g, 0, none⟩) n c) n (ss.map enc)) (hn : ss.length = n) : Holds enc w g 0 ss.toArray := by
 intro j hj
 have hj' : j < ss.length := by simpa using hj
 refine ⟨?_, jY1g h _⟩
 rw [Nat.zero_add, h.cellAt j (by omega), List.getElem?_map, List.getElem?_eq_getElem hj', jY3a hj']; rfl
theorem jY4i {α : Type} [Inhabited α] (enc : α -> Value) {g m : Nat} {t : TypeId} {fz : Nat × Nat} {w : World} {cur : Array Value} (d : Array α) (os : Array Obj) (h : w.heap[g]? = some (.cells cur t fz)) : (grow (putRow enc (Sort.ahead w m) g 0 d) os).heap[g]? = some (.cells (putCells enc 0 d cur) t fz) := by
 have hl := (Array.getElem?_eq_some_iff.1 h).1
 have h1 : (putRow enc (Sort.ahead w m) g 0 d).heap[g]? = some (.cells (putCells enc 0 d cur) t fz) := by simp [putRow, mapBlock, Sort.ahead, Array.getElem?_modify, h, onCells]
 show ((putRow enc (Sort.ahead w m) g 0 d).heap ++ os)[g]? = _
 rw [Array.getElem?_append_left (Array.getElem?_eq_some_iff.1 h1).1]
 exact h1
theorem jY1s {α : Type} [Inhabited α] (enc : α -> Value) {g m : Nat} {w : World} (d : Array α) (os : Array Obj) : Lv (fun b => b = g) w (grow (putRow enc (Sort.ahead w m) g 0 d) os) := by
 refine ⟨rfl, rfl, rfl, ?_, fun k hk hne => ?_⟩
 ·show w.heap.size <= ((putRow enc (Sort.ahead w m) g 0 d).heap ++ os).size
  simp [putRow, mapBlock, Sort.ahead]
 ·show ((putRow enc (Sort.ahead w m) g 0 d).heap ++ os)[k]? = _
  have hs : (putRow enc (Sort.ahead w m) g 0 d).heap.size = w.heap.size := by simp [putRow, mapBlock, Sort.ahead]
  rw [Array.getElem?_append_left (by omega)]; simp [putRow, mapBlock, Sort.ahead, Array.getElem?_modify, Ne.symm hne]
theorem jY3E {α : Type} [Inhabited α] (enc : α -> Value) {B n c g m : Nat} {t : TypeId} {w : World} {vs : List Value} {ts : List α} (os : Array Obj) (h : w.ownsRow B t 1 (.slice (some ⟨g, 0, none⟩) n c) n vs) (hn : ts.length = n) :
  (grow (putRow enc (Sort.ahead w m) g 0 ts.toArray) os).ownsRow B t 1 (.slice (some ⟨g, 0, none⟩) n c) n (ts.map enc) := by
 rcases h.2 with ⟨e, _⟩ | ⟨g', cap, cur, e, hB, hg, h1, h2, h3, h4⟩
 ·cases e
 ·cases e
  refine ⟨by simp [hn], .inr ⟨g, c, _, rfl, hB, jY4i enc ts.toArray os hg, h1, h2, by simp [putCells, h3], ?_⟩⟩; apply List.ext_getElem?
  intro j; rw [Nat.mul_one, List.getElem?_take]; by_cases hj : j < n
  ·rw [if_pos hj, Array.getElem?_toList, List.getElem?_map, List.getElem?_eq_getElem (by omega : j < ts.length)]
   have hc : j < cur.size := by omega
   simp only [putCells, Array.getElem?_mapIdx, Array.getElem?_eq_getElem hc, Option.map_some, Nat.sub_zero]; rw [if_pos ⟨Nat.zero_le _, by simp; omega⟩, jY3a (by omega)]
  ·rw [if_neg hj, List.getElem?_map, List.getElem?_eq_none (by omega)]; rfl
theorem swoL {α : Type} (f : α -> List Int) : SWO (ltOf (fun x y : α => cmpL (f x) (f y))) := by
 have e : ∀ x y : α, ltOf (fun x y : α => cmpL (f x) (f y)) x y = lexB (f x) (f y) := fun x y => jY1p _ _
 refine ⟨fun x => ?_, fun x y z h1 h2 => ?_, fun x y z h1 h2 => ?_⟩
 ·rw [e]; exact jWL _
 ·rw [e] at *; exact jVT _ _ _ h1 h2
 ·rw [e] at *; exact jY3H h1 h2
theorem jY3S (p : Option Addr) (c : Nat) (w : World) :
  Calls Tryz.prog 117 #[.slice p 0 c, .func (.func 118) #[] #[]] w fun e w' => e = .returned (.tuple #[]) /\ w' = w := by
 have h := AnyF.slices_SortFunc_none { Tryz.laysSlF6_f117 with } p c (.func (.func 118) #[] #[]) w
 exact h
theorem jY4G (B o n c : Nat) (al : List EA) (w : World) (hn : al.length = n) (h0 : 0 < n) (hn2 : n <= 20000) (ho : w.ownsRow B 39 1 (.slice (some ⟨o, 0, none⟩) n c) n (al.map (fun a => a.1))) (hr : ∀ a ∈ al, RwA B o w a) :
  Calls Tryz.prog 117 #[.slice (some ⟨o, 0, none⟩) n c, .func (.func 118) #[] #[]] w fun e w' =>
   e = .returned (.tuple #[]) /\ ∃ al' : List EA, al'.Perm al /\ al'.Pairwise (fun a b => lexB b.2 a.2 = false) /\ w'.ownsRow B 39 1 (.slice (some ⟨o, 0, none⟩) n c) n (al'.map (fun a => a.1)) /\ Lv (fun b => b = o) w w' := by
 obtain ⟨ls, hls⟩ := jY3k al hr
 obtain ⟨a0, ha0⟩ := jZ0 (xs := al) (k := 0) (by omega)
 haveI : Inhabited {a : EA // RwA B o w a} := ⟨⟨a0, hr a0 (List.mem_of_getElem? ha0)⟩⟩
 have hll : ls.length = n := by rw [<- hn, <- hls, List.length_map]
 have hsz : ls.toArray.size = n := by simp [hll]
 have hoe : w.ownsRow B 39 1 (.slice (some ⟨o, 0, none⟩) n c) n (ls.map (fun x => x.1.1)) := by
  have : ls.map (fun x => x.1.1) = al.map (fun a => a.1) := by rw [<- hls, List.map_map]; rfl
  rw [this]; exact ho
 have hH := holdsG (fun x : {a : EA // RwA B o w a} => x.1.1) hoe hll
 have hblk : o < w.heap.size := by
  rcases ho.2 with ⟨e, _⟩ | ⟨g', cap, cur, e, _, hg, _⟩
  ·cases e
  ·cases e; exact lt_of_block hg
 have hcmp : CmpReads Tryz.prog 118 #[] (fun x : {a : EA // RwA B o w a} => x.1.1) (fun x y => cmpL x.1.2 y.1.2) o 0 ls.toArray.size w := by
  intro m os dk hdk x y; have hv : Lv (fun b => b = o) w (sortWorld (fun x : {a : EA // RwA B o w a} => x.1.1) w o 0 m dk os) := jY1s _ dk os; obtain ⟨gx, dx, ex, -, hix⟩ := x.2.lv hv; obtain ⟨gy, dy, ey, -, hiy⟩ := y.2.lv hv; refine (jVq _ _ x.1.2 y.1.2 _ hix.at hiy.at).mono ?_; rintro e w' ⟨rfl, rfl⟩; exact ⟨rfl, 0, rfl⟩
 have hone : OneCell (fun x : {a : EA // RwA B o w a} => x.1.1) := fun x => by
  obtain ⟨gx, dx, ex, -, -⟩ := x.2; show x.1.1.oneCell' = true; rw [ex]; rfl
 have hcon := Any.slices_SortFunc Tryz.laysSlF6_f117 (fun x : {a : EA // RwA B o w a} => x.1.1) hone (fun x y => cmpL x.1.2 y.1.2) (swoL (fun x : {a : EA // RwA B o w a} => x.1.2)) 118 #[] o 0 c ls.toArray w (enters_of Tryz.func118 (by kernel_rfl) rfl) hcmp.lays hH hblk (by omega)
 rw [hsz] at hcon
 refine Calls.mono (show Calls Tryz.prog 117 _ _ _ from hcon) ?_
 rintro e w' ⟨rfl, d', m, os, hp, hs, rfl⟩
 have hd' : d'.size = n := by rw [hp.1, hsz]
 have hpl : d'.toList.Perm ls := by
  have h := hp.2.2; have e1 : d'.extract 0 n = d' := by rw [<- hd']; simp
  have e2 : ls.toArray.extract 0 n = ls.toArray := by rw [<- hsz]; simp
  rw [e1, e2] at h
  simpa using h
 refine ⟨rfl, d'.toList.map (fun x => x.1), by rw [<- hls]; exact hpl.map _, ?_, ?_, jY1s _ d' os⟩
 ·refine List.pairwise_iff_getElem.2 (fun i j hi hj hij => ?_)
  have hi' : i < d'.size := by simpa using hi
  have hj' : j < d'.size := by simpa using hj
  have h := hs i j (Nat.zero_le _) hij (by omega); have e : ltOf (fun x y : {a : EA // RwA B o w a} => cmpL x.1.2 y.1.2) d'[j]! d'[i]! = lexB d'[j]!.1.2 d'[i]!.1.2 := jY1p _ _; rw [e, getElem!_pos d' j hj', getElem!_pos d' i hi'] at h
  simpa using h
 ·have h := jY3E (m := m) (ts := d'.toList) (fun x : {a : EA // RwA B o w a} => x.1.1) os ho (by simpa using hd')
  rw [List.map_map]; have e : d'.toList.toArray = d' := by simp
  rw [e] at h; exact h
end Go.Proofs.YtklehkkclojccaaGreat
/-
 DERIVED: THE SHELF's CONTRACTS AT THIS DUMP, IN PLAIN WORDS (tools/lay-plain.mjs out of 'YtklehkkclojccaaGreatShelfD.lean', which tools/lay-shelf.mjs wrote): THE SAME DECLARATIONS UNDER THE SAME NAMES: 'import', 'namespace', 'open', 'def', 'theorem' AND NOTHING ELSE: no command of the shelf's: FOR A HAND-IN. Each laying: the table of numbers ('.._ren') and one theorem, a field a fact of the dump's own or the kernel's comparison; each contract: ONE APPLICATION.
-/
namespace Go.Proofs
open Go.Shelf
def Tryz.laysSlH6_f132_ren : Go.Shelf.Ren := ⟨fun | 6 => 132 | n => n, fun | 22 => 39 | 23 => 3 | 25 => 119 | 3 => 3 | 0 => 0 | 4 => 4 | n => n, fun | n => n⟩
theorem Tryz.laysSlH6_f132 : Go.Proofs.SlLaysH.n6 Tryz.prog Tryz.laysSlH6_f132_ren := {
 mixed := by kernel_rfl
 f6 := ⟨Tryz.f132.name, by decide, Tryz.func132.trans (congrArg some (by kernel_rfl))⟩
 t0 := Tryz.underlying0
 a0 := Tryz.isAgg0
 z0 := Tryz.sizeOf0
 v0 := Tryz.zeroValue0
 t3 := Tryz.underlying3
 a3 := Tryz.isAgg3
 z3 := Tryz.sizeOf3
 v3 := Tryz.zeroValue3
 t4 := Tryz.underlying4
 a4 := Tryz.isAgg4
 z4 := Tryz.sizeOf4
 v4 := Tryz.zeroValue4
 t22 := Tryz.underlying39
 a22 := Tryz.isAgg39
 z22 := Tryz.sizeOf39
 v22 := Tryz.zeroValue39
 a23 := Tryz.isAgg3
 z23 := Tryz.sizeOf3
 t25 := Tryz.underlying119
 a25 := Tryz.isAgg119
 z25 := Tryz.sizeOf119
 v25 := Tryz.zeroValue119 }
open Go.RowKit Go.Lib in
theorem Tryz.slices_IndexFunc_empty {α : Type} [Inhabited α] (a : Option Addr) (c : Nat) (fv : Value) (w : World) :
  Calls Tryz.prog 132 #[.slice a 0 c, fv] w fun e w' => e = .returned (.int .i64 (-1)) /\ w' = w := AnyE.slices_IndexFunc_empty Tryz.laysSlH6_f132 a c fv w
def Tryz.laysSlH10_f78_ren : Go.Shelf.Ren := ⟨fun | 10 => 78 | 6 => 132 | n => n, fun | 22 => 39 | 23 => 3 | 25 => 119 | 3 => 3 | 4 => 4 | 0 => 0 | n => n, fun | n => n⟩
theorem Tryz.laysSlH10_f78 : Go.Proofs.SlLaysH.n10 Tryz.prog Tryz.laysSlH10_f78_ren := {
 mixed := by kernel_rfl
 f6 := ⟨Tryz.f132.name, by decide, Tryz.func132.trans (congrArg some (by kernel_rfl))⟩
 f10 := ⟨Tryz.f78.name, by decide, Tryz.func78.trans (congrArg some (by kernel_rfl))⟩
 t0 := Tryz.underlying0
 a0 := Tryz.isAgg0
 z0 := Tryz.sizeOf0
 v0 := Tryz.zeroValue0
 t3 := Tryz.underlying3
 a3 := Tryz.isAgg3
 z3 := Tryz.sizeOf3
 v3 := Tryz.zeroValue3
 t4 := Tryz.underlying4
 a4 := Tryz.isAgg4
 z4 := Tryz.sizeOf4
 v4 := Tryz.zeroValue4
 t22 := Tryz.underlying39
 a22 := Tryz.isAgg39
 z22 := Tryz.sizeOf39
 v22 := Tryz.zeroValue39
 a23 := Tryz.isAgg3
 z23 := Tryz.sizeOf3
 t25 := Tryz.underlying119
 a25 := Tryz.isAgg119
 z25 := Tryz.sizeOf119
 v25 := Tryz.zeroValue119 }
open Go.RowKit Go.Lib Go.Sort in
theorem Tryz.slices_DeleteFunc {α : Type} [Inhabited α] (enc : α -> Value) (hO : OneCell enc) (p : α -> Bool) (g : Nat) (lb : Array Value) (eg : ∀ args w, (callFunc g args).run Tryz.prog w = .ok (.enter g args) w) (zr : α) (v23 : ∀ w, (zeroValue 3).run Tryz.prog w = .ok (enc zr) w) (blk off cap : Nat) (d : Array α) (w : World) (hp : PredAt Tryz.prog g lb enc p w) (hpo : PredOver Tryz.prog g lb enc p blk off d.size w) (hH : Holds enc w blk off d) (hsz : d.size <= 9223372036854775807) (hcap : d.size <= cap) :
  Calls Tryz.prog 78 #[.slice (some ⟨blk, off, none⟩) d.size cap, .func (.func g) #[] lb] w fun e w' => e = .returned (.slice (some ⟨blk, off, none⟩) (d.toList.filter fun x => !p x).length cap) /\ ∃ q, w' = putRow enc (Sort.ahead w q) blk off ((d.toList.filter fun x => !p x) ++ List.replicate (d.size - (d.toList.filter fun x => !p x).length) zr).toArray := AnyE.slices_DeleteFunc Tryz.laysSlH10_f78 enc hO p g lb eg zr v23 blk off cap d w hp hpo hH hsz hcap
end Go.Proofs
namespace Go.Proofs.YtklehkkclojccaaGreat
open Go.Lib (hid)
open Go.RowKit Go.Maps
def dAt (ps : List Pt) (z : Int) (d : D3) : Option (List Int) := match (insM ps)[d.1]?, (insM ps)[d.2.1]? with
 | some a, some b => if (a.1.1 : Int) = z /\ (b.1.1 : Int) = z then some (subL b.1.2.2 a.1.2.2) else none
 | _, _ => none
def dsM (ps : List Pt) (z : Int) (ds : List D3) : List (List Int) := ds.filterMap (dAt ps z)
def distB (ars : List Arr) (ps : List Pt) (z : Int) : List (List Int) := if progB ars ps = true then dstF (dsM ps z (depsB ars ps)) else []
theorem jY5K (ps : List Pt) (z : Int) (ds : List D3) (d : D3) : dsM ps z (ds ++ [d]) = dsM ps z ds ++ (dAt ps z d).toList := by
 unfold dsM
 rw [List.filterMap_append]
 cases h : dAt ps z d <;> simp [h]
theorem dAt_is {ps : List Pt} {z : Int} {d : D3} {a b : InsM} (ha : (insM ps)[d.1]? = some a) (hb : (insM ps)[d.2.1]? = some b) : dAt ps z d = if (a.1.1 : Int) = z /\ (b.1.1 : Int) = z then some (subL b.1.2.2 a.1.2.2) else none := by
 unfold dAt; rw [ha, hb]
theorem jY5v (ps : List Pt) (z : Int) (ds : List D3) : (dsM ps z ds).length <= ds.length := List.length_filterMap_le _ _
theorem jY2M {ars : List Arr} {ps : List Pt} (hb : progB ars ps = true) {a b : InsM} (ha : a ∈ insM ps) (hbm : b ∈ insM ps) :
  a.1.2.2.length <= 4 /\ (∀ x ∈ a.1.2.2, -1000000 <= x /\ x <= 1000000) /\ (∀ x ∈ b.1.2.2, -1000000 <= x /\ x <= 1000000) /\ (a.1.1 = b.1.1 -> b.1.2.2.length = a.1.2.2.length) := by
 obtain ⟨p, h1, -, h2, h3, -⟩ := jVG hb ha
 obtain ⟨q, k1, -, k2, k3, -⟩ := jVG hb hbm
 obtain ⟨w1, l1⟩ := jY18 h3 h2
 obtain ⟨w2, l2⟩ := jY18 k3 k2
 refine ⟨w1.1, fun x hx => by have := w1.2 x hx; omega, fun x hx => by have := w2.2 x hx; omega, fun e => ?_⟩
 rw [e, k1] at h1
 cases h1
 omega
theorem jVF (v : Value) (ars : List Arr) (ps : List Pt) (z : Int) (w : World) (hp : PrR w v ars ps) (hb : progB ars ps = true) :
  Calls Tryz.prog 64 #[v, .int .i64 z] w fun e w' => (∃ v', e = .returned v' /\ PtsOwn w.heap.size w' v' (dstF (dsM ps z (depsB ars ps)))) /\ Ext w w' := by
 obtain ⟨qa, ca, qp, cp, rfl, hla, hlp, ha, hps⟩ := hp.parts
 obtain ⟨na, hna⟩ : ∃ n, ars.length = n := ⟨_, rfl⟩
 obtain ⟨np, hnp⟩ : ∃ n, ps.length = n := ⟨_, rfl⟩
 rw [hna, hnp] at hp ⊢
 have HP := hid hp; have HB := hid hb
 clear hp ha hps hna hnp hb
 go_enter Tryz.func64, Tryz.ntmps64
 go_wp2_with (fail)
 obtain ⟨W1, hW1⟩ : ∃ W1, w.alloc (.cells #[.slice qa na ca, .slice qp np cp] 32) = W1 := ⟨_, rfl⟩
 have E1 : Hid (Ext w W1) := hid (by rw [<- hW1]; exact (Ext.refl w).alloc _)
 have B1 := hid (show W1.heap[w.heap.size]? = some (.cells #[.slice qa na ca, .slice qp np cp] 32 (0, 0)) by rw [<- hW1]; exact blk_at rfl)
 have HSW1 : Hid (W1.heap.size = w.heap.size + 1) := hid (by rw [<- hW1]; simp)
 obtain ⟨W2, hW2⟩ : ∃ W2, W1.alloc (.cells #[] 39) = W2 := ⟨_, rfl⟩
 have O2 : Hid (PtsOwn w.heap.size W2 (.slice (some ⟨w.heap.size + 1, 0, none⟩) 0 0) []) := hid ⟨[], by have h := World.ownsRow_made (e := 39) (size := 1) W1 #[] 0 (Nat.le_refl _) (Nat.zero_le _) rfl; rw [HSW1.o, hW2] at h; exact jZ7 h (Nat.le_succ _), fun i x h => by simp at h⟩
 have E2 : Hid (Ext W1 W2) := hid (by rw [<- hW2]; exact (Ext.refl W1).alloc _)
 try rw [hW1]
 try rw [hW2]
 clear hW1 hW2
 refine (jW0 _ ars ps _ (HP.o.ext (E1.o.trans E2.o)) HB.o).mono ?_
 rintro e w3 ⟨⟨qi, ci, rfl, hins⟩, hE3⟩
 have hM120 := jWE HB.o
 obtain ⟨M, hM⟩ : ∃ M, (insM ps).length = M := ⟨_, rfl⟩
 rw [hM] at hM120 hins ⊢
 have HM := hid hM; have HI := hid hins; have E3 := hid (E2.o.trans hE3); have B3 := hid ((E2.o.trans hE3).blk B1.o); have O3 := hid (O2.o.ext hE3)
 clear hM hins hE3
 obtain ⟨y0, y1, -, -⟩ := blk2 B3.o
 go_wp2_with (fail)
 refine (jY4f _ ars ps _ (HP.o.ext (E1.o.trans E3.o)) HB.o).mono ?_
 rintro e w4 ⟨⟨v4, rfl, hd⟩, hE4⟩
 obtain ⟨qd, cd, rfl⟩ := hd.form
 have hNb := jY1w ars ps
 have hmem : ∀ d ∈ depsB ars ps, d.1 < M /\ d.2.1 < M := fun d h => by
  have h1 := jY5r h; have h2 : cntB ars ps = M := by unfold cntB; rw [if_pos HB.o, HM.o]
  omega
 obtain ⟨ds, hds⟩ : ∃ ds, depsB ars ps = ds := ⟨_, rfl⟩
 rw [hds] at hd hNb hmem ⊢
 obtain ⟨N, hN⟩ : ∃ N, ds.length = N := ⟨_, rfl⟩
 rw [hN] at hd hNb ⊢
 have HD := hid hd; have HN := hid hN; have HMEM := hid hmem; have HI4 := hid (HI.o.ext hE4); have O4 := hid (O3.o.ext hE4); have E4 := hid (E3.o.trans hE4)
 have HW4 : Hid (w.heap.size <= w4.heap.size) := hid (by have h1 := E1.o.size_le; have h2 := E3.o.size_le; have h3 := hE4.size_le; omega)
 have HDS := hid hds
 clear hd hds hN hmem hE4 y0 y1 O2 O3
 go_wp2
 go_loopw [5, 8] (fun ov iv wr => ∃ (k : Nat) (q : Option Addr) (m c : Nat), k <= N /\ iv = .int .i64 k /\ ov = .slice q m c /\ (dstF (dsM ps z (ds.take k))).length = m /\ PtsOwn w.heap.size wr (.slice q m c) (dstF (dsM ps z (ds.take k))) /\ Ext w4 wr) (fun _ iv _ => N - (intOf iv).toNat)
 case atStart => exact ⟨0, _, 0, _, by omega, rfl, rfl, by simp [dsM, dstF], by simpa [dsM, dstF] using O4.o, Ext.refl w4⟩
 case round =>
  obtain ⟨k, q, m, c, hk, rfl, rfl, hm, hpt, hE⟩ := hrel
  have hm2 : m <= 14400 := by
   have h1 := jY3A (dsM ps z (ds.take k)); have h2 := jY5v ps z (ds.take k); rw [List.length_take] at h2; omega
  have HML := hid hm; have HPT := hid hpt; have HE := hid hE; clear hm hpt hE O4; by_cases hlt : k < N
  ·obtain ⟨d, hdk⟩ := jZ0 (xs := ds) (k := k) (by rw [HN.o]; exact hlt)
   obtain ⟨h1M, h2M⟩ := HMEM.o d (List.mem_of_getElem? hdk); obtain ⟨a, ha⟩ := jZ0 (xs := insM ps) (k := d.1) (by rw [HM.o]; exact h1M); obtain ⟨b, hb⟩ := jZ0 (xs := insM ps) (k := d.2.1) (by rw [HM.o]; exact h2M); obtain ⟨hl4, hba, hbb, hlen⟩ := jY2M HB.o (List.mem_of_getElem? ha) (List.mem_of_getElem? hb); have HDA := hid (dAt_is (z := z) ha hb); have hxa : ((insM ps).map (fun x => x.1))[d.1]? = some a.1 := by rw [List.getElem?_map, ha]; rfl
   have hxb : ((insM ps).map (fun x => x.1))[d.2.1]? = some b.1 := by rw [List.getElem?_map, hb]; rfl
   obtain ⟨od, rfl, -, hodl, t0, t1, t2⟩ := (HD.o.ext HE.o).elem hdk; obtain ⟨oi, ra, ka, rfl, hoil, a0, a1, a2, hpa⟩ := (HI4.o.ext HE.o).elem hxa; obtain ⟨oi', rb, kb, hoi, -, b0, b1, b2, hpb⟩ := (HI4.o.ext HE.o).elem hxb; obtain rfl : oi = oi' := by cases hoi; rfl
   have HDN : Hid (dsM ps z (ds.take (k + 1)) = dsM ps z (ds.take k) ++ (dAt ps z d).toList) := hid (by rw [jZ6 hdk, jY5K]); obtain ⟨i, hi⟩ : ∃ i, d.1 = i := ⟨_, rfl⟩; obtain ⟨j, hj⟩ : ∃ i, d.2.1 = i := ⟨_, rfl⟩; obtain ⟨pa, hpa1⟩ : ∃ i, a.1.1 = i := ⟨_, rfl⟩; obtain ⟨pb, hpb1⟩ : ∃ i, b.1.1 = i := ⟨_, rfl⟩; obtain ⟨sa, hsa1⟩ : ∃ i, a.1.2.1 = i := ⟨_, rfl⟩; obtain ⟨sb, hsb1⟩ : ∃ i, b.1.2.1 = i := ⟨_, rfl⟩; obtain ⟨xa, hxa1⟩ : ∃ i, a.1.2.2 = i := ⟨_, rfl⟩; obtain ⟨xb, hxb1⟩ : ∃ i, b.1.2.2 = i := ⟨_, rfl⟩; obtain ⟨la, hla1⟩ : ∃ i, xa.length = i := ⟨_, rfl⟩; obtain ⟨lb, hlb1⟩ : ∃ i, xb.length = i := ⟨_, rfl⟩; rw [hi] at t0 a0 a1 a2 h1M; rw [hj] at t1 b0 b1 b2 h2M; rw [hpa1] at a0 hlen HDA; rw [hpb1] at b0 hlen HDA; rw [hsa1] at a1; rw [hsb1] at b1; rw [hxa1, hla1] at a2 hpa hlen hl4; rw [hxb1, hlb1] at b2 hpb hlen; rw [hxa1] at hba; rw [hxb1] at hbb; rw [hxa1, hxb1] at HDA; have HPA := hid hpa; have HPB := hid hpb; have HBA := hid hba; have HBB := hid hbb; have HLEN := hid hlen; have HLA := hid hla1; have HLB := hid hlb1; have hkI : (k : Int) < (N : Int) := by omega
   have hiI : (i : Int) < (M : Int) := by omega
   have hjI : (j : Int) < (M : Int) := by omega
   clear hdk ha hb hxa hxb hoi hi hj hpa1 hpb1 hsa1 hsb1 hxa1 hxb1 hla1 hlb1 hpa hpb hba hbb hlen t2; by_cases hA : (pa : Int) = z
   ·have hA1 : ((pa : Int) == z) = true := by simpa using hA
    by_cases hB : (pb : Int) = z
    ·have hB1 : ((pb : Int) == z) = true := by simpa using hB
     obtain rfl : lb = la := HLEN.o (by omega); have HNX : Hid (dstF (dsM ps z (ds.take (k + 1))) = addL (dstF (dsM ps z (ds.take k))) (subL xb xa)) := hid (by rw [HDN.o, HDA.o, if_pos ⟨hA, hB⟩]; exact jY4Y _ _); clear hA hB; go_wp2_with (fail); obtain ⟨w5, hw5⟩ : ∃ w5, (wr.alloc (.cells #[.int .i64 (pa : Int), .int .i64 (sa : Int), .slice ra lb ka] 74)).alloc (.cells #[.int .i64 (pb : Int), .int .i64 (sb : Int), .slice rb lb kb] 74) = w5 := ⟨_, rfl⟩; have E5 : Hid (Ext wr w5) := hid (by rw [<- hw5]; exact ((Ext.refl wr).alloc _).alloc _)
     try rw [hw5]
     clear hw5 t0 t1 a0 a1 a2 b0 b1 b2; refine (jY2u rb ra lb kb ka xb xa _ HLB.o HLA.o (by omega) (HPB.o.at.ext E5.o) (HPA.o.at.ext E5.o) HBB.o HBA.o).mono ?_; rintro e w6 ⟨⟨v6, rfl, hv6⟩, hE6⟩; obtain ⟨p6, c6, rfl⟩ := jWN hv6; have E6 := hid (E5.o.trans hE6); have HV6 := hid hv6; have HW5 := hid E5.o.size_le; clear hE6 hv6; have hws : w.heap.size <= wr.heap.size := by have := HE.o.size_le; have := HW4.o; omega
     go_wp2_with (fail); refine (jY53 w.heap.size q m c p6 _ c6 _ (subL xb xa) _ HML.o (by omega) (HPT.o.ext E6.o) (by have := E6.o.size_le; omega) (HV6.o.weak (by have := HW5.o; omega))).mono ?_; rintro e w7 ⟨⟨v7, rfl, hv7⟩, hE7⟩; rw [<- HNX.o] at hv7; obtain ⟨q7, c7, rfl⟩ := hv7.slice; have HV7 := hid hv7; have E7 := hid (HE.o.trans (E6.o.trans hE7)); clear hE7 hv7; go_wp2; go_roundw
     case rel => exact ⟨k + 1, q7, _, c7, by omega, by go_num, rfl, rfl, HV7.o, E7.o⟩
     case measure => simp [intOf]; omega
    ·have hB1 : ((pb : Int) == z) = false := by simpa using hB
     have HNX : Hid (dstF (dsM ps z (ds.take (k + 1))) = dstF (dsM ps z (ds.take k))) := hid (by rw [HDN.o, HDA.o, if_neg (fun h => hB h.2)]; simp); have HML2 : Hid ((dstF (dsM ps z (ds.take (k + 1)))).length = m) := hid (by rw [HNX.o]; exact HML.o); have E5 := hid (((Ext.refl wr).alloc (.cells #[.int .i64 (pa : Int), .int .i64 (sa : Int), .slice ra la ka] 74)).alloc (.cells #[.int .i64 (pb : Int), .int .i64 (sb : Int), .slice rb lb kb] 74)); have HPT2 := hid (HPT.o.ext E5.o); rw [<- HNX.o] at HPT2; have E7 := hid (HE.o.trans E5.o); clear hA hB; go_wp2; go_roundw
     case rel => exact ⟨k + 1, q, _, c, by omega, by go_num, rfl, HML2.o, HPT2.o, E7.o⟩
     case measure => simp [intOf]; omega
   ·have hA1 : ((pa : Int) == z) = false := by simpa using hA
    have HNX : Hid (dstF (dsM ps z (ds.take (k + 1))) = dstF (dsM ps z (ds.take k))) := hid (by rw [HDN.o, HDA.o, if_neg (fun h => hA h.1)]; simp); have HML2 : Hid ((dstF (dsM ps z (ds.take (k + 1)))).length = m) := hid (by rw [HNX.o]; exact HML.o); have E5 := hid (((Ext.refl wr).alloc (.cells #[.int .i64 (pa : Int), .int .i64 (sa : Int), .slice ra la ka] 74)).alloc (.cells #[.int .i64 (pb : Int), .int .i64 (sb : Int), .slice rb lb kb] 74)); have HPT2 := hid (HPT.o.ext E5.o); rw [<- HNX.o] at HPT2; have E7 := hid (HE.o.trans E5.o); clear hA; go_wp2; go_roundw
    case rel => exact ⟨k + 1, q, _, c, by omega, by go_num, rfl, HML2.o, HPT2.o, E7.o⟩
    case measure => simp [intOf]; omega
  ·obtain rfl : k = N := by omega
   have hall : ds.take k = ds := List.take_of_length_le (by rw [HN.o]; omega); have HR : Hid (PtsOwn w.heap.size wr (.slice q m c) (dstF (dsM ps z ds))) := hid (by rw [<- hall]; exact HPT.o); clear hall; go_wp2; go_ret; exact ⟨⟨.slice q m c, rfl, by rw [HDS.o]; exact HR.o⟩, (E1.o.trans E4.o).trans HE.o⟩
theorem jV2 (v : Value) (ars : List Arr) (ps : List Pt) (z : Int) (w : World) (hp : PrR w v ars ps) :
  Calls Tryz.prog 27 #[v, .int .i64 z] w fun e w' => (∃ v', e = .returned v' /\ PtsOwn w.heap.size w' v' (distB ars ps z)) /\ Ext w w' := by
 obtain ⟨qa, ca, qp, cp, rfl, hla, hlp, ha, hps⟩ := hp.parts
 obtain ⟨na, hna⟩ : ∃ n, ars.length = n := ⟨_, rfl⟩
 obtain ⟨np, hnp⟩ : ∃ n, ps.length = n := ⟨_, rfl⟩
 rw [hna, hnp] at hp ⊢
 obtain ⟨pb, hpb⟩ : ∃ a, progB ars ps = a := ⟨_, rfl⟩
 have HP := hid hp; have HPB := hid hpb
 clear hp ha hps hna hnp hpb
 go_enter Tryz.func27, Tryz.ntmps27
 go_wp2_with (fail)
 obtain ⟨W1, hW1⟩ : ∃ W1, w.alloc (.cells #[.slice qa na ca, .slice qp np cp] 32) = W1 := ⟨_, rfl⟩
 have E1 : Hid (Ext w W1) := hid (by rw [<- hW1]; exact (Ext.refl w).alloc _)
 have B1 := hid (show W1.heap[w.heap.size]? = some (.cells #[.slice qa na ca, .slice qp np cp] 32 (0, 0)) by rw [<- hW1]; exact blk_at rfl)
 try rw [hW1]
 clear hW1
 refine (jXb _ ars ps _ (HP.o.ext E1.o)).mono ?_
 rw [HPB.o]
 rintro e w3 ⟨rfl, hE3⟩
 have E3 := hid (E1.o.trans hE3); have B3 := hid (hE3.blk B1.o)
 clear hE3
 cases pb with
 | false =>
  have HR : Hid (distB ars ps z = []) := hid (by unfold distB; rw [HPB.o]; rfl); have HS3 := hid E3.o.size_le; go_wp2; go_ret; exact ⟨⟨_, rfl, by rw [HR.o]; exact ⟨[], jZ7 (World.ownsRow_made w3 #[] 0 (Nat.le_refl _) (Nat.zero_le _) rfl) HS3.o, fun i x h => by simp at h⟩⟩, E3.o.alloc _⟩
 | true =>
  have HR : Hid (distB ars ps z = dstF (dsM ps z (depsB ars ps))) := hid (by unfold distB; rw [HPB.o]; rfl); obtain ⟨y0, y1, -, -⟩ := blk2 B3.o; go_wp2_with (fail); refine (jVF _ ars ps z _ (HP.o.ext E3.o) HPB.o).mono ?_; rintro e w4 ⟨⟨v4, rfl, hd⟩, hE4⟩; rw [<- HR.o] at hd; have HD := hid (hd.weak E3.o.size_le); have E4 := hid (E3.o.trans hE4); clear hd hE4 y0 y1; go_wp2; go_ret; exact ⟨⟨_, rfl, HD.o⟩, E4.o⟩
end Go.Proofs.YtklehkkclojccaaGreat
namespace Go.Proofs.YtklehkkclojccaaGreat
open Go.Lib (hid)
open Go.RowKit Go.Maps
def lvB (ars : List Arr) (ps : List Pt) : List Int := lvF (cntB ars ps) (depsB ars ps)
end Go.Proofs.YtklehkkclojccaaGreat
