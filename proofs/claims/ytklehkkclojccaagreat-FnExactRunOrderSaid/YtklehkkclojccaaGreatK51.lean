/- The texts E8 E9, joined. No statement is proved here. -/
import Derived.Test.YtklehkkclojccaaGreatK48
import Derived.Test.YtklehkkclojccaaGreatK50
import Derived.Test.YtklehkkclojccaaGreatK17
/- The program's orders as iterators; a machine whose memory another world holds. No statement is proved here. -/
namespace Go.Proofs.YtklehkkclojccaaGreat
open Go.RowKit Go.Maps
attribute [local go_sem] Oper.semAt_some
theorem MachR.swap {L : Nat} {X X' w4 : World} {a b c d f : Value} {gm n cm : Nat} {ars : List Arr} {ps : List Pt} {xs xs' : List Int} (h : MachR L X (.agg #[a, b, c, d, .slice (some ⟨gm, 0, none⟩) n cm, f]) ars ps xs) (h4 : MachR L w4 (.agg #[a, b, c, d, .slice (some ⟨gm, 0, none⟩) n cm, f]) ars ps xs') (hl : xs'.length = xs.length)
  (hv : Lv (fun k => k = gm) X X') (hg : X'.heap[gm]? = w4.heap[gm]?) : MachR L X' (.agg #[a, b, c, d, .slice (some ⟨gm, 0, none⟩) n cm, f]) ars ps xs' := by
 obtain ⟨Z, B, M0, Lo, Bm, D, q1, c1, q2, c2, pm, cm', pf, cf, e, hom, hmi, hev, hZ, hLM, hZM, hmem, hml, hfs⟩ := h
 have hm4 := h4.mem
 cases e
 have hlt := World.ownsRow.lt hmem gm rfl
 have hlo := hml gm rfl
 refine ⟨Z, B, M0, Lo, Bm, D, q1, c1, q2, c2, some ⟨gm, 0, none⟩, cm, pf, cf, by rw [hl], hom, hmi, hev, Lv.ext0 hv hZ (fun k hk => by omega), hLM, hZM, ?_, ?_, ?_⟩
 ·rw [hl]
  refine ⟨hm4.1, ?_⟩
  rcases hm4.2 with ⟨e, -⟩ | ⟨g, cap, cur, e, -, hg4, hr⟩
  ·simp at e
  ·simp only [Value.slice.injEq, Option.some.injEq, Addr.mk.injEq, and_true] at e
   obtain ⟨rfl, -, rfl⟩ := e
   exact .inr ⟨gm, cm, cur, by rw [hl], hlt.1, hg.trans hg4, hr⟩
 ·rw [hl]; exact hml
 ·obtain ⟨vs, ho, he⟩ := hfs
  have hob := own_ge2 ho
  exact FsL.keep ⟨vs, ho, he⟩ (fun g hg hs => hv.block g hs (fun e => by have e' : g = gm := e; omega)) (fun k hk => hv.block k (hob k hk).2 (fun e => by have e' : k = gm := e; have := (hob k hk).1; omega))
theorem inOrder_call (mo : Option Nat) (T : Int) (q1 : Option Addr) (n1 c1 : Nat) (q2 : Option Addr) (n2 c2 : Nat) (po : Option Addr) (no co : Nat) (w : World) : Calls Tryz.prog 62 #[.agg #[.map mo, .int .i64 T, .slice q1 n1 c1, .slice q2 n2 c2], .slice po no co] w fun e w' =>
  e = .returned (.func (.func 111) #[] #[.pointer (some ⟨w.heap.size + 1, 0, none⟩), .pointer (some ⟨w.heap.size, 0, none⟩)]) ∧ w' = (w.alloc (.cells #[.map mo, .int .i64 T, .slice q1 n1 c1, .slice q2 n2 c2] 70)).alloc (.cells #[.slice po no co] 39) := by
 go_enter Tryz.func62, Tryz.ntmps62
 go_wp2
 go_ret
 exact ⟨rfl, rfl⟩
abbrev EvA := InsM × (Nat × Nat × Option Addr × Nat)
def encA (ars : List Arr) (a : EvA) : Array Value := #[.agg #[.int .i64 (a.1.1.1 : Int), .int .i64 (a.1.1.2.1 : Int), .slice (some ⟨a.2.1, 0, none⟩) a.1.1.2.2.length a.2.2.1, .slice a.2.2.2.1 (readCells ars a.1.2 a.1.1.2.2).length a.2.2.2.2, .int .i64 (writeCell ars a.1.2 a.1.1.2.2)]]
def EvC (ars : List Arr) (w : World) (o n : Nat) (a : EvA) : Prop := w.cell? ⟨o, n * 5, none⟩ = some (.int .i64 (a.1.1.1 : Int)) ∧ w.cell? ⟨o, n * 5 + 1, none⟩ = some (.int .i64 (a.1.1.2.1 : Int)) ∧ w.cell? ⟨o, n * 5 + 2, none⟩ = some (.slice (some ⟨a.2.1, 0, none⟩) a.1.1.2.2.length a.2.2.1) ∧ w.cell? ⟨o, n * 5 + 3, none⟩ = some (.slice a.2.2.2.1 (readCells ars a.1.2 a.1.1.2.2).length a.2.2.2.2) ∧ w.cell? ⟨o, n * 5 + 4, none⟩ = some (.int .i64 (writeCell ars a.1.2 a.1.1.2.2))
theorem take_pre {α : Type} {xs : List α} {k : Nat} {x : α} (h : xs[k]? = some x) : (xs.take k ++ [x]) <+: xs := by
 rw [← take_next h]; exact List.take_prefix _ _
set_option linter.unusedVariables false in
set_option linter.unusedSimpArgs false in
set_option maxRecDepth 100000 in
set_option maxHeartbeats 4000000 in
theorem inOrder_seqB (base m m' CB PB M no : Nat) (Z : Nat → Prop) (w : World) (ars : List Arr) (mo : Option Nat) (T : Int) (q1 : Option Addr) (n1 c1 : Nat) (q2 : Option Addr) (c2 : Nat) (po : Option Addr) (co : Nat) (os : List Nat) (xs : List EvA) (hno : os.length = no) (hxs : xs.length = no) (hn4 : no ≤ 1000)
  (hB : w.heap[CB]? = some (.cells #[.slice po no co] 39 (0, 0))) (hP : w.heap[PB]? = some (.cells #[.map mo, .int .i64 T, .slice q1 n1 c1, .slice q2 M c2] 70 (0, 0)))
  (hos : ∀ (k n : Nat), os[k]? = some n → n < M ∧ ∃ b off, po = some ⟨b, off, none⟩ ∧ Z b ∧ w.cell? ⟨b, off + k, none⟩ = some (.int .i64 (n : Int)))
  (hev : ∀ (k n : Nat) (a : EvA), os[k]? = some n → xs[k]? = some a → ∃ o, q2 = some ⟨o, 0, none⟩ ∧ Z o ∧ EvC ars w o n a)
  (hZ : ∀ b, Z b → b < w.heap.size) (hZC : Z CB) (hZP : Z PB) :
  SeqB base Fence.wide m m' Tryz.prog 111 #[.pointer (some ⟨CB, 0, none⟩), .pointer (some ⟨PB, 0, none⟩)] (encA ars) (fun _ _ => True) (fun _ => True) (fun _ => False) Z xs w := by
 intro l J Jx own W hvW hJ hJx hown hY h0
 have hZW : ∀ b, Z b → b < W.heap.size := fun b h => Nat.lt_of_lt_of_le (hZ b h) hvW.size
 have HB := Lib.hid (hvW.heap hB (fun h => h)); have HP := Lib.hid (hvW.heap hP (fun h => h)); have HY := Lib.hid hY; have HOWN := Lib.hid hown; have HZW := Lib.hid hZW; have H0 := Lib.hid h0; have HJ := Lib.hid hJ; have HZC := Lib.hid hZC; have HZP := Lib.hid hZP; have HNO := Lib.hid hno; have HXS := Lib.hid hxs
 have HOS : Hid (∀ (k n : Nat), os[k]? = some n → n < M ∧ ∃ b off, po = some ⟨b, off, none⟩ ∧ Z b ∧ W.cell? ⟨b, off + k, none⟩ = some (.int .i64 (n : Int))) := Lib.hid (fun k n h => by
  obtain ⟨h1, b, off, h2, h3, h4⟩ := hos k n h
  exact ⟨h1, b, off, h2, h3, hvW.cellAt h4 (fun h => h)⟩)
 have HEV : Hid (∀ (k n : Nat) (a : EvA), os[k]? = some n → xs[k]? = some a → ∃ o, q2 = some ⟨o, 0, none⟩ ∧ Z o ∧ EvC ars W o n a) := Lib.hid (fun k n a h1 h2 => by
  obtain ⟨o, e1, e2, a0, a1, a2, a3, a4⟩ := hev k n a h1 h2
  exact ⟨o, e1, e2, hvW.cellAt a0 (fun h => h), hvW.cellAt a1 (fun h => h), hvW.cellAt a2 (fun h => h), hvW.cellAt a3 (fun h => h), hvW.cellAt a4 (fun h => h)⟩)
 clear hvW hB hP hZ hZW hY hown h0 hJ hJx hZC hZP hno hxs hos hev
 have hdd : ∀ k : Nat, (Fence.wide.depth.isSome = true → 1 ≤ k) := fun k h => by cases h
 show CallsIn Fence.wide m Tryz.prog 111 #[.func (.yield l) #[] #[], .pointer (some ⟨CB, 0, none⟩), .pointer (some ⟨PB, 0, none⟩)] W _
 refine callsIn_of_wp Tryz.func111 rfl trivial ?_ rfl
 simp only [Tryz.ntmps111, List.size_toArray, List.length_cons, List.length_nil, Nat.reduceAdd, Nat.reduceSub, Array.replicate_succ, Array.replicate_zero, List.push_toArray, List.append_toArray, List.nil_append, List.cons_append]
 obtain ⟨b0, -⟩ := blk1 HB.out
 gi_wp2_with (fail)
 gi_loopw [8] (fun iv wr => ∃ (k : Nat) (own1 : List Nat), k ≤ no ∧ iv = .int .i64 k ∧ J (xs.take k) own1 wr ∧ Grew own own1 W wr) (fun iv _ => no - (intOf iv).toNat)
 case atStart => exact ⟨0, own, by omega, rfl, by simpa using H0.out, Grew.refl own W (fun b hb => (HOWN.out b hb).1)⟩
 case round =>
  obtain ⟨k, own1, hk, rfl, hj, hg⟩ := hrel
  by_cases hlt : k < no
  ·obtain ⟨n, hn⟩ := get_some (xs := os) (k := k) (by rw [HNO.out]; exact hlt)
   obtain ⟨a, ha⟩ := get_some (xs := xs) (k := k) (by rw [HXS.out]; exact hlt)
   obtain ⟨hnM, bo, oo, rfl, hZb, c0⟩ := HOS.out k n hn
   obtain ⟨o, rfl, hZo, e0, e1, e2, e3, e4⟩ := HEV.out k n a hn ha
   have hnot : ∀ b, Z b → ¬ b ∈ own := fun b hb hm => (HOWN.out b hm).2 hb
   replace c0 := hg.1.cellAt c0 (hnot _ hZb)
   replace e0 := hg.1.cellAt e0 (hnot _ hZo)
   replace e1 := hg.1.cellAt e1 (hnot _ hZo)
   replace e2 := hg.1.cellAt e2 (hnot _ hZo)
   replace e3 := hg.1.cellAt e3 (hnot _ hZo)
   replace e4 := hg.1.cellAt e4 (hnot _ hZo)
   have P1 := hg.1.heap HP.out (hnot _ HZP.out)
   obtain ⟨p0, p1, p2, p3, -⟩ := blk4' P1
   obtain ⟨fn, tmps, assign, body, hy, hR⟩ := HY.out _ a own1 _ hj (take_pre ha) trivial (own_nextZ HOWN.out hg HZW.out)
   simp only [encA] at hy hR
   have hkn : (k : Int) < (no : Int) := by omega
   have hnm : (n : Int) < (M : Int) := by omega
   have HG2 := Lib.hid hg; have HA := Lib.hid ha
   clear hj hg P1 hn ha hnot hZo
   gi_wp2_with (fail)
   refine ⟨hdd _, ?_⟩
   refine (round_wide hR).mono ?_
   clear hR
   rintro e V2 ⟨own3, hg3, (⟨rfl, hj3⟩ | ⟨rfl, hj3⟩)⟩
   ·have HJ3 := Lib.hid hj3; have HG3 := Lib.hid (HG2.out.trans hg3)
    clear hg3 hj3 hy b0 c0 e0 e1 e2 e3 e4 p0 p1 p2 p3
    gi_wp2
    go_roundw
    case rel => exact ⟨k + 1, own3, by omega, by go_num, by rw [take_next HA.out]; exact HJ3.out, HG3.out⟩
    case measure => simp [intOf]; omega
   ·have HJ3 := Lib.hid hj3; have HG3 := Lib.hid (HG2.out.trans hg3)
    clear hg3 hj3 hy b0 c0 e0 e1 e2 e3 e4 p0 p1 p2 p3
    gi_wp2
    first
     | refine bodyPost_ret (results_none rfl _ _ _) rfl ?_
     | refine ⟨_, results_none rfl _ _ _, ?_⟩
    exact ⟨⟨_, rfl⟩, own3, HG3.out.2, HG3.out.1.mono (fun _ _ h => .inl h), trivial, .inr ⟨_, take_pre HA.out, HJ3.out⟩⟩
  ·obtain rfl : k = no := by omega
   have HJ1 : Hid (J xs own1 wr) := Lib.hid (by rwa [List.take_of_length_le (by rw [HXS.out]; omega)] at hj)
   have HG1 := Lib.hid hg
   clear hj hg
   gi_wp2_with (fail)
   exact bodyPost_end (results_none rfl _ _ _) rfl ⟨⟨_, rfl⟩, own1, HG1.out.2, HG1.out.1.mono (fun _ _ h => .inl h), trivial, .inl HJ1.out⟩
end Go.Proofs.YtklehkkclojccaaGreat
/- The program's RunOrder. No statement is proved here. -/
namespace Go.Proofs.YtklehkkclojccaaGreat
open Go.RowKit Go.Maps
attribute [local go_sem] Oper.semAt_some
theorem order_events {B M c2 : Nat} {q2 : Option Addr} {Z : World} {ars : List Arr} {ps : List Pt} (hM : (insM ps).length = M) (hev : EvsOwn B Z (.slice q2 M c2) (evsOf ars ps)) (os : List Int) (hos : ∀ x ∈ os, 0 ≤ x ∧ x < (M : Int)) :
  ∃ xs : List EvA, xs.length = os.length ∧ xs.map (fun a => a.1) = ordY ps os ∧ (∀ a ∈ xs, a.1 ∈ insM ps ∧ IntsAt Z (.slice (some ⟨a.2.1, 0, none⟩) a.1.1.2.2.length a.2.2.1) a.1.1.2.2) ∧
   ∀ (k n : Nat) (a : EvA), (os.map Int.toNat)[k]? = some n → xs[k]? = some a → ∃ o, q2 = some ⟨o, 0, none⟩ ∧ o < Z.heap.size ∧ EvC ars Z o n a := by
 have key : ∀ (i : Nat) (x : Int), os[i]? = some x → ∃ a : EvA, (insM ps)[x.toNat]? = some a.1 ∧ IntsAt Z (.slice (some ⟨a.2.1, 0, none⟩) a.1.1.2.2.length a.2.2.1) a.1.1.2.2 ∧ ∃ o, q2 = some ⟨o, 0, none⟩ ∧ o < Z.heap.size ∧ EvC ars Z o x.toNat a := by
  intro i x hx
  obtain ⟨h0, h1⟩ := hos x (List.mem_of_getElem? hx)
  obtain ⟨y, hy⟩ := get_some (xs := insM ps) (k := x.toNat) (by omega)
  have hx' : (evsOf ars ps)[x.toNat]? = some (evOf ars y) := by unfold evsOf; rw [List.getElem?_map, hy]; rfl
  obtain ⟨o, g, d1, r, kk, e, hol, e0, e1, e2, e3, e4, hpt, -⟩ := hev.elem hx'
  exact ⟨(y, g, d1, r, kk), hy, hpt.at, o, e, hol, e0, e1, e2, e3, e4⟩
 obtain ⟨xs, hl, hs⟩ := list_of key
 refine ⟨xs, hl, ?_, fun a ha => ?_, fun k n a h1 h2 => ?_⟩
 ·apply List.ext_getElem?
  intro i
  unfold ordY
  rw [List.getElem?_map, List.getElem?_map]
  cases hx : os[i]? with
  | none =>
   have : xs[i]? = none := List.getElem?_eq_none (by have := List.getElem?_eq_none_iff.1 hx; omega)
   rw [this]; rfl
  | some x =>
   obtain ⟨a, ha, h1, -⟩ := hs i x hx
   rw [ha]
   simp [List.getD_eq_getElem?_getD, h1]
 ·obtain ⟨i, hi⟩ := List.mem_iff_getElem?.1 ha
  obtain ⟨x, hx⟩ := get_some (xs := os) (k := i) (by have := (List.getElem?_eq_some_iff.1 hi).1; omega)
  obtain ⟨a', ha', h1, h2, -⟩ := hs i x hx
  rw [hi] at ha'
  cases ha'
  exact ⟨List.mem_of_getElem? h1, h2⟩
 ·rw [List.getElem?_map] at h1
  obtain ⟨x, hx, rfl⟩ := Option.map_eq_some_iff.1 h1
  obtain ⟨a', ha', -, -, h3⟩ := hs k x hx
  rw [h2] at ha'
  cases ha'
  exact h3
def RoI (L base : Nat) (W6 : World) (ob : List Nat) (vv : Value) (ars : List Arr) (ps : List Pt) (xs : List Int) (s : List EvA) (own : List Nat) (X : World) : Prop :=
 own = ob ∧ ∃ Y, MachR L Y vv ars ps (runM ars (s.map (fun a => a.1)) xs) ∧ Y.heap.size = base ∧ Ext Y X ∧ Lv (fun k => k ∈ ob) W6 X
theorem RoI.stable (L : Nat) (W6 : World) (ob : List Nat) (vv : Value) (ars : List Arr) (ps : List Pt) (xs : List Int) : StableB W6.heap.size (RoI L W6.heap.size W6 ob vv ars ps xs) := by
 rintro s own X X' ⟨rfl, Y, h1, h2, h3, h4⟩ hv
 exact ⟨rfl, Y, h1, h2, Lv.ext0 hv h3 (fun b hb hd => by have := hd.2; omega), h4.trans hv (fun _ _ h => h) (fun b hb h => by have := h.2; omega)⟩
theorem RoI.step {L base gm n cm : Nat} {W6 X w4 Y : World} {a b c d f : Value} {ars : List Arr} {ps : List Pt} {xs : List Int} {s : List EvA} {x : EvA}
  (hY : MachR L Y (.agg #[a, b, c, d, .slice (some ⟨gm, 0, none⟩) n cm, f]) ars ps (runM ars (s.map (fun a => a.1)) xs)) (hb : Y.heap.size = base) (hE : Ext Y X) (hL : Lv (fun k => k ∈ [gm]) W6 X)
  (h4 : MachR L w4 (.agg #[a, b, c, d, .slice (some ⟨gm, 0, none⟩) n cm, f]) ars ps (exM ars (runM ars (s.map (fun a => a.1)) xs) x.1)) (hv : Lv (fun k => k = gm) X w4) (hgm : gm < Y.heap.size) :
  RoI L base W6 [gm] (.agg #[a, b, c, d, .slice (some ⟨gm, 0, none⟩) n cm, f]) ars ps xs (s ++ [x]) [gm] w4 := by
 obtain ⟨o, ho⟩ : ∃ o, w4.heap[gm]? = some o := ⟨_, Array.getElem?_eq_getElem (by have := hE.size_le; have := hv.size; omega)⟩
 have hp : Lv (fun k => k = gm) Y (Y.putObj gm o) := Lv.putObj Y gm o rfl
 have hpg : (Y.putObj gm o).heap[gm]? = w4.heap[gm]? := (World.putObj_heap_same hgm).trans ho.symm
 refine ⟨rfl, Y.putObj gm o, ?_, by simpa using hb, ⟨hv.os.trans (hE.os.trans hp.os.symm), hv.tape.trans (hE.tape.trans hp.tape.symm), hv.output.trans (hE.output.trans hp.output.symm), ?_, fun i hi => ?_⟩, hL.trans hv (fun _ _ h => h) (fun b _ h => by simp [h])⟩
 ·rw [List.map_append, List.map_cons, List.map_nil, runM_snoc]
  exact MachR.swap hY h4 (exM_len _ _ _) hp hpg
 ·have h1 := hE.size_le; have h2 := hv.size
  simp
  omega
 ·by_cases h : i = gm
  ·subst h; exact hpg.symm
  ·have hi' : i < Y.heap.size := by simpa using hi
   exact (hv.block i (Nat.lt_of_lt_of_le hi' hE.size) h).trans ((hE.block i hi').trans (hp.block i hi' h).symm)
set_option linter.unusedVariables false in
set_option linter.unusedSimpArgs false in
set_option maxRecDepth 100000 in
set_option maxHeartbeats 4000000 in
theorem RunOrder_any (v : Value) (ars : List Arr) (ps : List Pt) (pm : Option Addr) (m cm : Nat) (xs : List Int) (po : Option Addr) (no co : Nat) (os : List Int) (w : World) (hp : PrR w v ars ps) (hm : xs.length = m) (hs : IntsAt w (.slice pm m cm) xs) (hno : os.length = no) (hos : IntsAt w (.slice po no co) os) :
  Calls Tryz.prog 23 #[v, .slice pm m cm, .slice po no co] w fun e w' => (∃ v', e = .returned (.tuple #[v', .bool (roOk ars ps xs os)]) ∧ IntsOwn w.heap.size w' v' (roR ars ps xs os)) ∧ Ext w w' := by
 obtain ⟨qa, ca, qp, cp, rfl, -, -, -, -⟩ := hp.parts
 have HP := Lib.hid hp; have HM := Lib.hid hm; have HS := Lib.hid hs; have HNO := Lib.hid hno; have HOS := Lib.hid hos
 obtain ⟨-, hoc⟩ := hos.cl
 have HOC := Lib.hid hoc
 clear hp hm hs hno hos hoc
 refine (callsIn_wide (n := 6)).1 ?_
 refine callsIn_of_wp_marks Tryz.func23 rfl trivial ?_ rfl
 simp only [Tryz.ntmps23, List.size_toArray, List.length_cons, List.length_nil, Nat.reduceAdd, Nat.reduceSub, Array.replicate_succ, Array.replicate_zero, List.push_toArray, List.append_toArray, List.nil_append, List.cons_append]
 have hdd : ∀ j : Nat, (Fence.wide.depth.isSome = true → 1 ≤ j) := fun j h => by cases h
 gi_wp2_with (fail)
 obtain ⟨W1, hW1⟩ : ∃ W1, (w.alloc (.cells #[.slice qa ars.length ca, .slice qp ps.length cp] 32)) = W1 := ⟨_, rfl⟩
 have E1 : Hid (Ext w W1) := Lib.hid (by rw [← hW1]; exact (Ext.refl w).alloc _)
 try rw [hW1]
 clear hW1
 refine ⟨trivial, ?_⟩
 refine (callsIn_wide.2 (machineOf_any _ ars ps pm m cm xs _ (HP.out.ext E1.out) HM.out (HS.out.ext E1.out))).mono ?_
 rintro e w1 ⟨⟨v, rfl, h0, h1⟩, hE⟩
 have E2 := Lib.hid (E1.out.trans hE); have HE1 := Lib.hid hE
 obtain ⟨mb, hmb⟩ : ∃ b, memB ars ps xs = b := ⟨_, rfl⟩
 rw [hmb] at h0 h1 ⊢
 have HMB := Lib.hid hmb
 clear hE hmb
 cases mb with
 | false =>
  have hv := h0 rfl
  subst hv
  clear h0 h1
  have HOK : Hid (roOk ars ps xs os = false) := Lib.hid (by unfold roOk; rw [HMB.out]; rfl)
  have HR : Hid (roR ars ps xs os = []) := Lib.hid (by unfold roR; rw [HOK.out]; rfl)
  gi_wp2_with (fail)
  refine ⟨trivial, ?_⟩
  gi_wp2
  refine leaves_marks2 [] _ (by simp) (by simp) (fun W' hW' => ?_)
  exact ⟨.tuple #[.slice none 0 0, .bool false], by simp [results, Tryz.results23, go_sem], ⟨_, by rw [HOK.out], by rw [HR.out]; exact World.ownsRow_nil _ _ _ _⟩, hW'.ext0 (E2.out.alloc _) (by simp)⟩
 | true =>
  have hM := h1 rfl
  obtain ⟨mo, T, q1, n1, c1, q2, M, c2, q3, n3, c3, q4, n4, c4, rfl⟩ := mach_form h0 h1
  obtain ⟨hvals, hprog, -⟩ := memB_parts HMB.out
  have hMlen : (insM ps).length = M := hM.evs.1
  have hM120 : M ≤ 120 := by have := insM_120 hprog; omega
  obtain ⟨Z, B, hev, hZ, hzg⟩ : ∃ Z B, EvsOwn B Z (.slice q2 M c2) (evsOf ars ps) ∧ Ext Z w1 ∧ ∀ b, (Value.slice q3 n3 c3).ownBlock = some b → Z.heap.size ≤ b ∧ W1.heap.size ≤ b ∧ b < w1.heap.size := by
   obtain ⟨Z, B, M0, Lo, Bm, D, q1', c1', q2', c2', pm', cm', pf, cf, hv, hom, hmi, hev, hZ, hLM, hZM, hmem, hml, hfs⟩ := id hM
   cases hv
   exact ⟨Z, B, hev, hZ, fun b hb => by have := World.ownsRow.lt hmem b hb; omega⟩
  obtain ⟨pb, hpb⟩ : ∃ pb, permB M os = pb := ⟨_, rfl⟩
  have HOK : Hid (roOk ars ps xs os = pb) := Lib.hid (by unfold roOk ordB; rw [HMB.out, hprog, hMlen, hpb]; cases pb <;> rfl)
  have HPB := Lib.hid hpb; have HMR := Lib.hid hM; have HEV := Lib.hid hev; have HZ := Lib.hid hZ; have HZG := Lib.hid hzg; have HML := Lib.hid hMlen; have HPR := Lib.hid hprog
  clear h0 h1 hM hpb hev hZ hzg hMlen hvals hprog
  gi_wp2_with (fail)
  obtain ⟨w2, hw2⟩ : ∃ w2, w1.alloc (.cells #[.map mo, .int .i64 T, .slice q1 n1 c1, .slice q2 M c2, .slice q3 n3 c3, .slice q4 n4 c4] 87) = w2 := ⟨_, rfl⟩
  have E3 : Hid (Ext w1 w2) := Lib.hid (by rw [← hw2]; exact (Ext.refl w1).alloc _)
  have K2 := Lib.hid (show w2.heap[w1.heap.size]? = some (.cells #[.map mo, .int .i64 T, .slice q1 n1 c1, .slice q2 M c2, .slice q3 n3 c3, .slice q4 n4 c4] 87 (0, 0)) by rw [← hw2]; exact blk_at rfl)
  have HS2 : Hid (w2.heap.size = w1.heap.size + 1) := Lib.hid (by rw [← hw2]; simp)
  try rw [hw2]
  clear hw2
  refine ⟨trivial, ?_⟩
  refine (callsIn_wide.2 (hasOrder_any mo T (.slice q1 n1 c1) q2 M c2 po no co os _ ⟨_, _, _, rfl⟩ HNO.out (HOS.out.ext (E2.out.trans E3.out)) (by omega))).mono ?_
  rw [HPB.out]
  rintro e w3 ⟨rfl, hE3⟩
  have E4 := Lib.hid (E3.out.trans hE3); have K3 := Lib.hid (hE3.blk K2.out); have HS3 : Hid (w1.heap.size + 1 ≤ w3.heap.size) := Lib.hid (by have := hE3.size_le; have := HS2.out; omega)
  clear hE3
  cases pb with
  | false =>
   have HR : Hid (roR ars ps xs os = []) := Lib.hid (by unfold roR; rw [HOK.out]; rfl)
   gi_wp2
   refine leaves_marks2 [] _ (by simp) (by simp) (fun W' hW' => ?_)
   exact ⟨.tuple #[.slice none 0 0, .bool false], by simp [results, Tryz.results23, go_sem], ⟨_, by rw [HOK.out], by rw [HR.out]; exact World.ownsRow_nil _ _ _ _⟩, hW'.ext0 (E2.out.trans E4.out) (by simp)⟩
  | true =>
   have hord : ordB ars ps os = true := by unfold ordB; rw [HPR.out, HML.out, HPB.out]; rfl
   have hperm := HPB.out
   simp only [permB, Bool.and_eq_true, decide_eq_true_eq] at hperm
   have HNM : Hid (no = M) := Lib.hid (by rw [← HNO.out]; exact hperm.2)
   have hbd := ord_bd hord
   rw [HML.out] at hbd
   obtain ⟨xa, hxl, hxm, hxp, hxc⟩ := order_events HML.out HEV.out os hbd
   have HR : Hid (roR ars ps xs os = runM ars (xa.map (fun a => a.1)) xs) := Lib.hid (by unfold roR; rw [if_pos HOK.out, hxm])
   have HXL : Hid (xa.length = no) := Lib.hid (by rw [hxl, HNO.out]); have HXP := Lib.hid hxp; have HXC := Lib.hid hxc; have HBD := Lib.hid hbd; have HXO : Hid (∀ y ∈ xa.map (fun a => a.1), y ∈ insM ps) := Lib.hid (by rw [hxm]; exact ordY_mem hord)
   clear hord hperm hbd hxl hxm hxp hxc
   have hl3 := lt_of_block K3.out
   obtain ⟨s0, s1, s2, s3, s4, s5, -⟩ := blk6 K3.out
   gi_wp2_with (fail)
   refine ⟨trivial, ?_⟩
   refine (callsIn_wide.2 (inOrder_call mo T q1 n1 c1 q2 M c2 po no co _)).mono ?_
   rintro e w4 ⟨rfl, rfl⟩
   obtain ⟨W6, hW6⟩ : ∃ W6, (w3.alloc (.cells #[.map mo, .int .i64 T, .slice q1 n1 c1, .slice q2 M c2] 70)).alloc (.cells #[.slice po no co] 39) = W6 := ⟨_, rfl⟩
   have E6 : Hid (Ext w3 W6) := Lib.hid (by rw [← hW6]; exact ((Ext.refl w3).alloc _).alloc _)
   have KP : Hid (W6.heap[w3.heap.size]? = some (.cells #[.map mo, .int .i64 T, .slice q1 n1 c1, .slice q2 M c2] 70 (0, 0))) := Lib.hid (by rw [← hW6]; exact blk_old (blk_at rfl))
   have KC : Hid (W6.heap[w3.heap.size + 1]? = some (.cells #[.slice po no co] 39 (0, 0))) := Lib.hid (by rw [← hW6]; exact blk_at (by simp))
   have HS6 : Hid (W6.heap.size = w3.heap.size + 2) := Lib.hid (by rw [← hW6]; simp)
   have K6 := Lib.hid (E6.out.blk K3.out); have E16 := Lib.hid (E4.out.trans E6.out)
   try rw [hW6]
   clear hW6 s0 s1 s2 s3 s4 s5 hl3
   gi_wp2_with (fail)
   obtain ⟨ob, hob⟩ : ∃ ob, (Value.slice q3 n3 c3).ownBlock.toList = ob := ⟨_, rfl⟩
   have HOBB := Lib.hid hob
   have hobm : ∀ b, b ∈ ob → Z.heap.size ≤ b ∧ W1.heap.size ≤ b ∧ b < w1.heap.size := fun b hb => HZG.out b (by rw [← HOBB.out, Option.mem_toList] at hb; exact hb)
   have HOBM := Lib.hid hobm
   have hs6 := HS6.out; have hs3 := HS3.out; have hw1 := E1.out.size_le; have hzs := HZ.out.size_le; have hws := HE1.out.size_le
   refine wpIn_rangeFunc_baseA (w := W6) rfl (hdd _) (gf := 111) (lb := #[.pointer (some ⟨w3.heap.size + 1, 0, none⟩), .pointer (some ⟨w3.heap.size, 0, none⟩)]) rfl trivial (enters_of Tryz.func111 (by kernel_rfl) rfl)
    W6.heap.size (Nat.le_refl _) (inOrder_seqB W6.heap.size _ _ (w3.heap.size + 1) w3.heap.size M no (fun b => b < Z.heap.size ∨ b < w.heap.size ∨ b = w3.heap.size ∨ b = w3.heap.size + 1) W6 ars mo T q1 n1 c1 q2 c2 po co (os.map Int.toNat) xa (by rw [List.length_map, HNO.out]) HXL.out (by have := HNM.out; omega) KC.out KP.out
     (fun k n hk => by
      rw [List.getElem?_map] at hk
      obtain ⟨x, hx, rfl⟩ := Option.map_eq_some_iff.1 hk
      obtain ⟨b, off, e, hc⟩ := HOC.out k x hx
      obtain ⟨x0, x1⟩ := HBD.out x (List.mem_of_getElem? hx)
      exact ⟨by omega, b, off, e, .inr (.inl (World.block_lt_of_cell? _ _ hc)), by rw [show ((x.toNat : Nat) : Int) = x by omega]; exact (E2.out.trans E16.out).keep hc⟩)
     (fun k n a hk ha => by
      obtain ⟨o, e, hol, a0, a1, a2, a3, a4⟩ := HXC.out k n a hk ha
      have hEZ := HZ.out.trans E16.out
      exact ⟨o, e, .inl hol, hEZ.keep a0, hEZ.keep a1, hEZ.keep a2, hEZ.keep a3, hEZ.keep a4⟩)
     (fun b hb => by omega) (.inr (.inr (.inr rfl))) (.inr (.inr (.inl rfl))))
    (fun b hb => by omega) (fun b h => h.elim) (fun x Wa Wb _ _ => trivial) (fun Wa Wb _ _ => trivial) (fun _ => rfl)
    (RoI W1.heap.size W6.heap.size W6 ob (.agg #[.map mo, .int .i64 T, .slice q1 n1 c1, .slice q2 M c2, .slice q3 n3 c3, .slice q4 n4 c4]) ars ps xs) (fun _ _ _ _ => False) (RoI.stable _ _ _ _ _ _ _) (fun cd s own X X' h _ => h) ob
    (fun b hb => by have := HOBM.out b hb; exact ⟨by omega, fun h => by omega⟩) ⟨rfl, W6, HMR.out.ext E16.out, rfl, Ext.refl _, Lv.refl _ _⟩
    (fun (a : EvA) (a' : Act) (X : World) => ∃ g, X.heap[g]? = some (.cells #[.int .i64 (a.1.1.1 : Int), .int .i64 (a.1.1.2.1 : Int), .slice (some ⟨a.2.1, 0, none⟩) a.1.1.2.2.length a.2.2.1, .slice a.2.2.2.1 (readCells ars a.1.2 a.1.1.2.2).length a.2.2.2.2, .int .i64 (writeCell ars a.1.2 a.1.1.2.2)] 76 (0, 0)) ∧ a' = { tmps := #[.agg #[.slice qa ars.length ca, .slice qp ps.length cp], .slice pm m cm, .slice po no co, .pointer (some ⟨w.heap.size, 0, none⟩), undef, undef, .slice none 0 0, .bool false, .pointer (some ⟨w1.heap.size, 0, none⟩), .bool true, .pointer (some ⟨g, 0, none⟩), .tuple #[.agg #[.map mo, .int .i64 T, .slice q1 n1 c1, .slice q2 M c2, .slice q3 n3 c3, .slice q4 n4 c4], .bool true], .agg #[.slice qa ars.length ca, .slice qp ps.length cp], .slice pm m cm, .tuple #[.agg #[.map mo, .int .i64 T, .slice q1 n1 c1, .slice q2 M c2, .slice q3 n3 c3, .slice q4 n4 c4], .bool true], .agg #[.map mo, .int .i64 T, .slice q1 n1 c1, .slice q2 M c2, .slice q3 n3 c3, .slice q4 n4 c4], .bool true, .bool true, .bool false, .bool false, .pointer (some ⟨w1.heap.size, 0, none⟩), .agg #[.map mo, .int .i64 T, .slice q1 n1 c1, .slice q2 M c2], .slice po no co, .bool true, .bool false, .bool false, .pointer (some ⟨w1.heap.size, 0, none⟩), .agg #[.map mo, .int .i64 T, .slice q1 n1 c1, .slice q2 M c2], .slice po no co, .func (.func 111) #[] #[.pointer (some ⟨w3.heap.size + 1, 0, none⟩), .pointer (some ⟨w3.heap.size, 0, none⟩)], .agg #[.int .i64 (a.1.1.1 : Int), .int .i64 (a.1.1.2.1 : Int), .slice (some ⟨a.2.1, 0, none⟩) a.1.1.2.2.length a.2.2.1, .slice a.2.2.2.1 (readCells ars a.1.2 a.1.1.2.2).length a.2.2.2.2, .int .i64 (writeCell ars a.1.2 a.1.1.2.2)], undef, undef, undef, undef, undef], defers := [] })
    ?ast ?assign ?body ?done ?stop
   case ast =>
    rintro x a' W W' l o ⟨g, h4, h5⟩ ho hv
    exact ⟨g, hv.heap h4 (fun e => by subst e; rw [h4] at ho; cases ho), h5⟩
   case assign =>
    intro l2 y X K hy hK
    dsimp only [encA]
    gi_wp2
    exact hK _ _ (Lv.alloc _ X _) ⟨X.heap.size, blk_at rfl, rfl⟩
   case body =>
    rintro l2 pre0 a ow a' X ⟨rfl, Y, hMR, hYs, hEY, hLV⟩ hpx hrx hob2 ⟨g, hg, rfl⟩
    have ham : a ∈ xa := List.mem_of_getElem? (pre_get hpx)
    obtain ⟨hyM, hpt⟩ := HXP.out a ham
    have HPT := Lib.hid hpt
    have HEZ : Hid (Ext Z X) := Lib.hid (hLV.ext0 (HZ.out.trans E16.out) (fun b hb hd => by have := HOBM.out b hd; omega))
    have HKX := Lib.hid (hLV.heap K6.out (fun h => by have := HOBM.out _ h; omega))
    have HMK : Hid (memB ars ps (runM ars (pre0.map (fun a => a.1)) xs) = true) := Lib.hid (runM_mem (fun z hz => HXO.out z (by obtain ⟨t, ht⟩ := hpx; rw [← ht]; simp only [List.map_append]; simp [hz])) HMB.out)
    have HV := Lib.hid (execute_any (hMR.ext hEY) HMK.out hyM a.2.1 a.2.2.1 a.2.2.2.1 (readCells ars a.1.2 a.1.1.2.2).length a.2.2.2.2 (HPT.out.ext HEZ.out))
    have HMY := Lib.hid hMR; have HYS := Lib.hid hYs; have HEY := Lib.hid hEY; have HLV := Lib.hid hLV; have HO2 := Lib.hid hob2
    obtain ⟨s0, s1, s2, s3, s4, s5, -⟩ := blk6 HKX.out
    obtain ⟨z0, z1, z2, z3, z4, -⟩ := blk5e hg
    clear hMR hYs hEY hLV hpx hrx hob2 hg hpt ham hyM
    gi_wp2_with (fail)
    refine ⟨trivial, ?_⟩
    refine CallsIn.mono (F := Fence.wide.inRound l2) (callsIn_wide.2 HV.out) ?_
    rintro e w4 ⟨rfl, hMR4, gm4, _, _, _, _, _, _, _, he4, -, hg4, hL4⟩
    cases he4
    have hob4 : ow = [gm4] := HOBB.out.symm.trans rfl
    subst hob4
    have hgy : gm4 < Y.heap.size := by have := HOBM.out gm4 (by simp); have := HYS.out; omega
    have HST := Lib.hid (RoI.step HMY.out HYS.out HEY.out HLV.out hMR4 hL4 hgy)
    have HGR := Lib.hid (Grew.same (own := [gm4]) (hL4.mono (fun b _ h => by simp [h])) (fun b hb => (HO2.out b hb).1))
    clear hMR4 hL4 hg4 s0 s1 s2 s3 s4 s5 z0 z1 z2 z3 z4
    gi_wp2
    exact ⟨_, HGR.out, HST.out⟩
   case done =>
    rintro E ow X hE6 hEn ⟨rfl, Y, hMR, hYs, hEY, hLV⟩ hob2 hv6 hz hdf
    have HKX := Lib.hid (hLV.heap K6.out (fun h => by have := HOBM.out _ h; omega))
    have EX := Lib.hid (hLV.ext0 (E2.out.trans E16.out) (fun b hb h => by have := HOBM.out _ h; omega))
    have HMEM := Lib.hid ((hMR.ext hEY).mem); have XE := Lib.hid hdf; have HEN := Lib.hid hEn; have HEE : Hid (w.heap.size ≤ E) := Lib.hid (by omega)
    obtain ⟨s0, s1, s2, s3, s4, s5, -⟩ := blk6 HKX.out
    clear hMR hYs hEY hLV hob2 hv6 hz hdf hE6 hEn
    gi_wp2_with (fail)
    refine leaves_marks2 [E] _ (fun E' h => by simp at h; subst h; exact XE.out) (by simp) (fun W' hW' => ?_)
    refine ⟨.tuple #[.slice q3 n3 c3, .bool true], by simp [results, Tryz.results23, go_sem], ⟨_, by rw [HOK.out], ?_⟩, hW'.ext0 EX.out (fun b hb h => by have := HEE.out; simp at h; omega)⟩
    rw [HR.out]
    exact (show IntsOwn W1.heap.size W' _ _ from row_lv HMEM.out hW' (fun b hb h => by
     simp at h; subst h
     exact HEN.out (by rw [← HOBB.out, Option.mem_toList]; exact hb))).weak E1.out.size_le
   case stop =>
    rintro E cd q ow X hE6 hEn hq h
    exact h.elim
end Go.Proofs.YtklehkkclojccaaGreat
