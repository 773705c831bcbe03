/- The texts G0 S9 V5 S10, joined. No statement is proved here. -/
import Derived.Test.YtggpjapmhakklaaGreatQL25
import Derived.Deep.SlicePairs
import Derived.Test.YtggpjapmhakklaaGreatQL04
import Derived.Test.YtggpjapmhakklaaGreatQL09
set_option maxRecDepth 100000
set_option maxHeartbeats 8000000
set_option linter.unusedVariables false
set_option linter.unusedSimpArgs false
namespace Go.Proofs.YtggpjapmhakklaaGreat
open Go.Lib (hid)
open Go.RowKit Go.ChangeShapes Go.WideShapes Go.ChangeAt Go.Joins
abbrev St := ByteArray × List Aff × Ex
def StmtsAt (w : World) (v : Value) (ss : List St) : Prop := ∃ p c, ∃ us : Nat → List Value, v = .slice p ss.length c ∧ ss.length ≤ 9223372036854775807 ∧
 (∀ (i : Nat) (s : St), ss[i]? = some s → ∃ b off, p = some ⟨b, off, none⟩ ∧ b < w.heap.size ∧ ∀ (j : Nat) (v : Value), (us i)[j]? = some v → w.cell? ⟨b, off + i * 9 + j, none⟩ = some v) ∧ ∀ (i : Nat) (s : St), ss[i]? = some s → StR w (.agg (us i).toArray) s.1 s.2.1 s.2.2
theorem StmtsAt.ext {w w' : World} {v : Value} {ss : List St} (h : StmtsAt w v ss) (hE : Ext w w') : StmtsAt w' v ss := by
 obtain ⟨p, c, us, hv, hl, hc, hk⟩ := h
 refine ⟨p, c, us, hv, hl, fun i e hi => ?_, fun i e hi => (hk i e hi).ext hE⟩
 obtain ⟨b, off, h1, h2, h3⟩ := hc i e hi
 exact ⟨b, off, h1, Nat.lt_of_lt_of_le h2 hE.size_le, fun j v hj => hE.keep (h3 j v hj)⟩
theorem StmtsAt.form {w : World} {v : Value} {ss : List St} (h : StmtsAt w v ss) : ∃ p c, v = .slice p ss.length c ∧ ss.length ≤ 9223372036854775807 := by
 obtain ⟨p, c, us, hv, hl, _⟩ := h; exact ⟨p, c, hv, hl⟩
theorem StmtsAt.elem {w : World} {p : Option Addr} {n c i : Nat} {ss : List St} {s : St} (h : StmtsAt w (.slice p n c) ss) (hi : ss[i]? = some s) :
  ∃ b off q1 d1 q2 d2 q3 d3 q4 d4, p = some ⟨b, off, none⟩ ∧ b < w.heap.size ∧ w.cell? ⟨b, off + i * 9, none⟩ = some (.string s.1) ∧ w.cell? ⟨b, off + i * 9 + 1, none⟩ = some (.slice q1 s.2.1.length d1) ∧
   w.cell? ⟨b, off + i * 9 + 2, none⟩ = some (.int .i64 s.2.2.kind) ∧ w.cell? ⟨b, off + i * 9 + 3, none⟩ = some (.int .i64 s.2.2.num) ∧ w.cell? ⟨b, off + i * 9 + 4, none⟩ = some (.slice q2 s.2.2.ix.1.length d2) ∧ w.cell? ⟨b, off + i * 9 + 5, none⟩ = some (.int .i64 s.2.2.ix.2) ∧
   w.cell? ⟨b, off + i * 9 + 6, none⟩ = some (.string s.2.2.arr) ∧ w.cell? ⟨b, off + i * 9 + 7, none⟩ = some (.slice q3 s.2.2.subs.length d3) ∧ w.cell? ⟨b, off + i * 9 + 8, none⟩ = some (.slice q4 s.2.2.kids.length d4) ∧
   StR w (.agg #[.string s.1, .slice q1 s.2.1.length d1, .int .i64 s.2.2.kind, .int .i64 s.2.2.num, .slice q2 s.2.2.ix.1.length d2, .int .i64 s.2.2.ix.2, .string s.2.2.arr, .slice q3 s.2.2.subs.length d3, .slice q4 s.2.2.kids.length d4]) s.1 s.2.1 s.2.2 := by
 obtain ⟨p', c', us, hv, hl, hc, hk⟩ := h
 simp only [Value.slice.injEq] at hv
 obtain ⟨rfl, -, rfl⟩ := hv
 obtain ⟨b, off, h1, h2, h3⟩ := hc i s hi
 have hst := hk i s hi
 obtain ⟨q1, d1, q2, d2, q3, d3, q4, d4, hcs, -, -, -⟩ := hst.parts
 have hcs' : us i = [.string s.1, .slice q1 s.2.1.length d1, .int .i64 s.2.2.kind, .int .i64 s.2.2.num, .slice q2 s.2.2.ix.1.length d2, .int .i64 s.2.2.ix.2, .string s.2.2.arr, .slice q3 s.2.2.subs.length d3, .slice q4 s.2.2.kids.length d4] := by
  simpa using hcs
 rw [hcs'] at h3 hst
 exact ⟨b, off, q1, d1, q2, d2, q3, d3, q4, d4, h1, h2, h3 0 _ rfl, h3 1 _ rfl, h3 2 _ rfl, h3 3 _ rfl, h3 4 _ rfl, h3 5 _ rfl, h3 6 _ rfl, h3 7 _ rfl, h3 8 _ rfl, hst⟩
abbrev Arr := ByteArray × List Int
def ArrR (w : World) (u0 u1 : Value) (a : Arr) : Prop := u0 = .string a.1 ∧ a.1.size ≤ 9223372036854775807 ∧ IntsAt w u1 a.2
theorem ArrR.ext {w w' : World} {u0 u1 : Value} {a : Arr} (h : ArrR w u0 u1 a) (hb : Ext w w') : ArrR w' u0 u1 a := ⟨h.1, h.2.1, h.2.2.ext hb⟩
def ArrsAt : World → Value → List Arr → Prop := PairsAt ArrR
theorem ArrsAt.ext {w w' : World} {v : Value} {xs : List Arr} (h : ArrsAt w v xs) (hb : Ext w w') : ArrsAt w' v xs := PairsAt.ext (R := ArrR) (fun h hb => h.ext hb) h hb
theorem ArrsAt.form {w : World} {v : Value} {xs : List Arr} (h : ArrsAt w v xs) : ∃ p c, v = .slice p xs.length c ∧ xs.length ≤ 9223372036854775807 := by
 obtain ⟨p, c, hv, hm, _⟩ := h; exact ⟨p, c, hv, hm⟩
theorem ArrsAt.elem {w : World} {p : Option Addr} {n c : Nat} {xs : List Arr} (h : ArrsAt w (.slice p n c) xs) {i : Nat} {x : Arr} (hi : xs[i]? = some x) :
  ∃ b off q m, p = some ⟨b, off, none⟩ ∧ w.cell? ⟨b, off + i * 2, none⟩ = some (.string x.1) ∧ w.cell? ⟨b, off + i * 2 + 1, none⟩ = some (.slice q x.2.length m) ∧ b < w.heap.size ∧ x.1.size ≤ 9223372036854775807 ∧ IntsAt w (.slice q x.2.length m) x.2 := by
 obtain ⟨p', c', hv, hm, hc⟩ := h
 cases hv
 obtain ⟨b, off, u0, u1, hp, h0, h1, hlt, rfl, hs, hr⟩ := hc i x hi
 obtain ⟨q, m, rfl, _⟩ := id hr
 exact ⟨b, off, q, m, hp, h0, h1, hlt, hs, hr⟩
abbrev Pt := List Lp × List St
def PartR (w : World) (u0 u1 : Value) (a : Pt) : Prop := LoopsAt w u0 a.1 ∧ StmtsAt w u1 a.2
theorem PartR.ext {w w' : World} {u0 u1 : Value} {a : Pt} (h : PartR w u0 u1 a) (hb : Ext w w') : PartR w' u0 u1 a := ⟨h.1.ext hb, h.2.ext hb⟩
def PartsAt : World → Value → List Pt → Prop := PairsAt PartR
theorem PartsAt.ext {w w' : World} {v : Value} {xs : List Pt} (h : PartsAt w v xs) (hb : Ext w w') : PartsAt w' v xs := PairsAt.ext (R := PartR) (fun h hb => h.ext hb) h hb
theorem PartsAt.form {w : World} {v : Value} {xs : List Pt} (h : PartsAt w v xs) : ∃ p c, v = .slice p xs.length c ∧ xs.length ≤ 9223372036854775807 := by
 obtain ⟨p, c, hv, hm, _⟩ := h; exact ⟨p, c, hv, hm⟩
theorem PartsAt.elem {w : World} {p : Option Addr} {n c : Nat} {xs : List Pt} (h : PartsAt w (.slice p n c) xs) {i : Nat} {x : Pt} (hi : xs[i]? = some x) :
  ∃ b off q m q' m', p = some ⟨b, off, none⟩ ∧ w.cell? ⟨b, off + i * 2, none⟩ = some (.slice q x.1.length m) ∧ w.cell? ⟨b, off + i * 2 + 1, none⟩ = some (.slice q' x.2.length m') ∧ b < w.heap.size ∧ LoopsAt w (.slice q x.1.length m) x.1 ∧ StmtsAt w (.slice q' x.2.length m') x.2 := by
 obtain ⟨p', c', hv, hm, hc⟩ := h
 cases hv
 obtain ⟨b, off, u0, u1, hp, h0, h1, hlt, hr, hr'⟩ := hc i x hi
 obtain ⟨q, m, rfl, _⟩ := hr.form
 obtain ⟨q', m', rfl, _⟩ := hr'.form
 exact ⟨b, off, q, m, q', m', hp, h0, h1, hlt, hr, hr'⟩
def PrR (w : World) (v : Value) (ars : List Arr) (ps : List Pt) : Prop := ∃ u0 u1, v = .agg #[u0, u1] ∧ ArrsAt w u0 ars ∧ PartsAt w u1 ps
theorem PrR.ext {w w' : World} {v : Value} {ars : List Arr} {ps : List Pt} (h : PrR w v ars ps) (hE : Ext w w') : PrR w' v ars ps := by
 obtain ⟨u0, u1, h1, h2, h3⟩ := h
 exact ⟨u0, u1, h1, h2.ext hE, h3.ext hE⟩
theorem PrR.parts {w : World} {v : Value} {ars : List Arr} {ps : List Pt} (h : PrR w v ars ps) : ∃ q m q' m', v = .agg #[.slice q ars.length m, .slice q' ps.length m'] ∧ ars.length ≤ 9223372036854775807 ∧ ps.length ≤ 9223372036854775807 ∧ ArrsAt w (.slice q ars.length m) ars ∧ PartsAt w (.slice q' ps.length m') ps := by
 obtain ⟨u0, u1, rfl, h2, h3⟩ := h
 obtain ⟨q, m, rfl, l1⟩ := h2.form
 obtain ⟨q', m', rfl, l2⟩ := h3.form
 exact ⟨q, m, q', m', rfl, l1, l2, h2, h3⟩
theorem cellsLawStmt9 : Tryz.prog.cellsOf 206 = 9 := by kernel_rfl
theorem stmt_of_trod {H : Type} {enc : TypeId × Value → H} {W : World} {fuel : Nat} {cs : List Value} {x : DataW H × List MemPlace} (h : DataW.trod enc Tryz.prog W 0 (fun _ => true) true fuel 206 cs = some x) : ∃ (a : ByteArray) (subs : List Aff) (e : Ex), StR W (.agg cs.toArray) a subs e := by
 obtain ⟨ys, n, -, -, hcl, hyl, hg⟩ := DataW.trod_struct Tryz.underlying206 h
 rw [cellsLawStmt9] at hcl
 match cs, hcl, ys, hyl with
 | [v0, v1, v2, v3, v4, v5, v6, v7, v8], _, [y0, y1], _ =>
  have g0 := hg 0 _ rfl
  have g1 := hg 1 _ rfl
  simp [cellsLawAcc, cellsLawExpr] at g0 g1
  obtain ⟨arr, subs, rfl, ha', hs⟩ := acc_of_trod g0
  have ha : arr.size ≤ 9223372036854775807 := by unfold maxLen at ha'; omega
  obtain ⟨e, he⟩ := expr_of_trod _ _ _ g1
  exact ⟨arr, subs, e, v1, _, rfl, ha, hs, he⟩
theorem stmts_of_trod {H : Type} {enc : TypeId × Value → H} {W : World} {fuel : Nat} {v : Value} {x : DataW H × List MemPlace} (h : DataW.trod enc Tryz.prog W 0 (fun _ => true) true fuel 82 [v] = some x) : ∃ ss, StmtsAt W v ss := by
 rcases DataW.trod_slice Tryz.underlying82 h with ⟨hcs, _⟩ | ⟨a, len, cap, elems, rest, n', hn', hcs, _, _, hl, hm, hlen, hel, _, _⟩
 ·simp only [List.cons.injEq, and_true] at hcs
  subst hcs
  exact ⟨[], none, 0, fun _ => [], rfl, by simp, fun i e hi => by simp at hi, fun i e hi => by simp at hi⟩
 ·simp only [List.cons.injEq, and_true] at hcs
  subst hcs
  rw [cellsLawStmt9] at hel
  have each : ∀ i, i < len → ∃ q : List Value × St, W.cells? 0 (a.add (i * 9)) 9 = some q.1 ∧ StR W (.agg q.1.toArray) q.2.1 q.2.2.1 q.2.2.2 := fun i hi => by
   have h1 := hel i hi
   rw [List.getElem?_eq_getElem (by omega)] at h1
   obtain ⟨cs', h2, h3⟩ := Option.bind_eq_some_iff.1 h1
   obtain ⟨ar, su, e, he⟩ := stmt_of_trod h3
   exact ⟨(cs', ar, su, e), h2, he⟩
  haveI : Inhabited (List Value × St) := ⟨([], ByteArray.empty, [], .mk 0 0 ([], 0) ByteArray.empty [] [])⟩
  obtain ⟨f, hf⟩ := Go.Deep.choose_lt (n := len) (p := fun i (q : List Value × St) => W.cells? 0 (a.add (i * 9)) 9 = some q.1 ∧ StR W (.agg q.1.toArray) q.2.1 q.2.2.1 q.2.2.2) each
  have hkl : ((List.range len).map (fun i => (f i).2)).length = len := by simp
  have hget : ∀ (i : Nat) (e : St), ((List.range len).map (fun i => (f i).2))[i]? = some e → i < len ∧ e = (f i).2 := fun i e hi => by
   have hlt : i < len := by rw [← hkl]; exact (List.getElem?_eq_some_iff.1 hi).1
   rw [List.getElem?_map, List.getElem?_range hlt] at hi
   exact ⟨hlt, by simpa using hi.symm⟩
  obtain ⟨b, off, spot⟩ := a
  have hm' : len ≤ 9223372036854775807 := by unfold maxLen at hm; omega
  refine ⟨(List.range len).map (fun i => (f i).2), some ⟨b, off, spot⟩, cap, fun i => (f i).1, by rw [hkl], by rw [hkl]; exact hm', fun i e hi => ?_, fun i e hi => ?_⟩
  ·obtain ⟨hlt, _⟩ := hget i e hi
   obtain ⟨_, h9, hc⟩ := World.cells?_some (hf i hlt).1
   obtain ⟨_, h90, hc0⟩ := World.cells?_some (hf 0 (by omega)).1
   have hs0 := hc0 0 (by omega)
   rw [List.getElem?_eq_getElem (by omega)] at hs0
   have hsp := World.cell?_spot hs0
   have hspot : spot = none := by simpa [Addr.add] using hsp
   subst hspot
   have key : ∀ (j : Nat) (v : Value), (f i).1[j]? = some v → W.cell? ⟨b, off + i * 9 + j, none⟩ = some v := fun j v hj => by
    have hj9 : j < 9 := by rw [← h9]; exact (List.getElem?_eq_some_iff.1 hj).1
    have := hc j hj9
    rw [hj, Addr.add_lit, Addr.add_lit] at this
    exact this
   refine ⟨b, off, rfl, ?_, key⟩
   exact World.block_lt_of_cell? W _ (key 0 _ (List.getElem?_eq_getElem (by omega)))
  ·obtain ⟨hlt, rfl⟩ := hget i e hi
   exact (hf i hlt).2
theorem arrs_of_trod {H : Type} {enc : TypeId × Value → H} {W : World} {fuel : Nat} {v : Value} {x : DataW H × List MemPlace} (h : DataW.trod enc Tryz.prog W 0 (fun _ => true) true fuel 22 [v] = some x) : ∃ xs, ArrsAt W v xs := by
 rcases Go.Deep.open_slice_pairs Tryz.underlying22 Tryz.underlying79 (by kernel_rfl) (by kernel_rfl) (by kernel_rfl) (by kernel_rfl) (by kernel_rfl) h with ⟨hcs, _⟩ | ⟨a, len, cap, m, n, V0, V1, D0, D1, P0, P1, hcs, _, hl, hm, hmm, _, hcell⟩
 ·simp only [List.cons.injEq, and_true] at hcs
  subst hcs
  exact ⟨[], none, 0, rfl, by simp, fun i x hi => by simp at hi⟩
 ·simp only [List.cons.injEq, and_true] at hcs
  subst hcs
  refine pairs_mk (R := ArrR) (V0 := V0) (V1 := V1) (by unfold maxLen at hm; omega) (fun i hi => ?_)
  obtain ⟨h0, h1, t0, t1⟩ := hcell i (by rw [hmm]; split <;> omega)
  obtain ⟨ar, e0, _, ha⟩ := DataW.trod_string Tryz.underlying9 t0
  obtain ⟨xs, hx, _⟩ := ints_of_trod t1
  simp only [List.cons.injEq, and_true] at e0
  exact ⟨h0, h1, (ar, xs), e0, by unfold maxLen at ha; show ar.size ≤ _; omega, hx⟩
theorem parts_of_trod {H : Type} {enc : TypeId × Value → H} {W : World} {fuel : Nat} {v : Value} {x : DataW H × List MemPlace} (h : DataW.trod enc Tryz.prog W 0 (fun _ => true) true fuel 23 [v] = some x) : ∃ xs, PartsAt W v xs := by
 rcases Go.Deep.open_slice_pairs Tryz.underlying23 Tryz.underlying84 (by kernel_rfl) (by kernel_rfl) (by kernel_rfl) (by kernel_rfl) (by kernel_rfl) h with ⟨hcs, _⟩ | ⟨a, len, cap, m, n, V0, V1, D0, D1, P0, P1, hcs, _, hl, hm, hmm, _, hcell⟩
 ·simp only [List.cons.injEq, and_true] at hcs
  subst hcs
  exact ⟨[], none, 0, rfl, by simp, fun i x hi => by simp at hi⟩
 ·simp only [List.cons.injEq, and_true] at hcs
  subst hcs
  refine pairs_mk (R := PartR) (V0 := V0) (V1 := V1) (by unfold maxLen at hm; omega) (fun i hi => ?_)
  obtain ⟨h0, h1, t0, t1⟩ := hcell i (by rw [hmm]; split <;> omega)
  obtain ⟨xs, hx⟩ := loops_of_trod t0
  obtain ⟨ys, hy⟩ := stmts_of_trod t1
  exact ⟨h0, h1, (xs, ys), hx, hy⟩
def RProg (w : World) (v : Value) : Prop := ∃ ars ps, PrR w v ars ps
theorem open_prog {H : Type} {enc : TypeId × Value → H} {W : World} {base : Nat} {v : Value} {d : DataW H} {p : List MemPlace} (hv : Value.okWide Tryz.prog W .any base 25 v) (h : DataW.Trod enc Tryz.prog W 0 (fun _ => true) true 25 v d p) : RProg W v := by
 obtain ⟨c0, c1, y0, y1, m, rfl, rfl, rfl, hy0, hy1⟩ := open_agg2 Tryz.underlying25 (by kernel_rfl) (by kernel_rfl) hv h
 obtain ⟨xs, h1⟩ := arrs_of_trod hy0
 obtain ⟨ys, h2⟩ := parts_of_trod hy1
 exact ⟨xs, ys, c0, c1, rfl, h1, h2⟩
end Go.Proofs.YtggpjapmhakklaaGreat
namespace Go.Proofs.YtggpjapmhakklaaGreat
open Go.Lib (hid)
open Go.RowKit
def countE : Nat → Ex → Int
 | 0, _ => 1
 | L + 1, e => 1 + (e.kids.map (countE L)).sum
def bC : Nat → Int
 | 0 => 1
 | L + 1 => 1 + 2 * bC L
theorem sum_bd {f : Ex → Int} {B : Int} : ∀ {l : List Ex}, (∀ x ∈ l, 0 ≤ f x ∧ f x ≤ B) → 0 ≤ (l.map f).sum ∧ (l.map f).sum ≤ l.length * B
 | [], _ => by simp
 | x :: l, h => by
  have h1 := h x (by simp)
  have h2 := sum_bd (l := l) (fun y hy => h y (by simp [hy]))
  simp only [List.map_cons, List.sum_cons, List.length_cons]
  have h3 : ((l.length + 1 : Nat) : Int) * B = l.length * B + B := by rw [Int.natCast_add, Int.add_mul]; simp
  omega
theorem kids_two {L : Nat} {e : Ex} {d : Int} (h : shapeB L e d = true) : e.kids.length ≤ 2 := by
 cases L with
 | zero => simp [shapeB] at h
 | succ L =>
  simp only [shapeB, Bool.and_eq_true, decide_eq_true_eq] at h
  have h1 := h.1
  unfold kidsN at h1
  split at h1
  ·omega
  ·split at h1 <;> omega
theorem shape_kids {L : Nat} {e : Ex} {d : Int} (h : shapeB (L + 1) e d = true) : ∀ x ∈ e.kids, shapeB L x d = true := by
 simp only [shapeB, Bool.and_eq_true, List.all_eq_true] at h
 exact h.2.2
theorem bC_pos : ∀ L, 1 ≤ bC L
 | 0 => by simp [bC]
 | L + 1 => by have := bC_pos L; simp only [bC]; omega
theorem countE_bd {d : Int} : ∀ (L : Nat) (e : Ex), shapeB L e d = true → 0 ≤ countE L e ∧ countE L e ≤ bC L
 | 0, e, h => by simp [shapeB] at h
 | L + 1, e, h => by
  have h1 := sum_bd (f := countE L) (B := bC L) (l := e.kids) (fun x hx => countE_bd L x (shape_kids h x hx))
  have h2 := kids_two h
  have h3 := bC_pos L
  have h4 : (e.kids.length : Int) * bC L ≤ 2 * bC L := Int.mul_le_mul_of_nonneg_right (by omega) (by omega)
  simp only [countE, bC]
  omega
theorem bC_five {L : Nat} (h : L ≤ 5) : bC L ≤ 63 := by
 match L, h with
 | 0, _ => decide
 | 1, _ => decide
 | 2, _ => decide
 | 3, _ => decide
 | 4, _ => decide
 | 5, _ => decide
theorem l3Count_any (dd : Int) : ∀ (L : Nat) (e : Ex) (u s v : Value) (w : World), L ≤ 5 → shapeB L e dd = true → IntsAt w u e.ix.1 → AffsAt w s e.subs → ExsAt w v e.kids →
  Calls Tryz.prog 97 #[.agg #[.int .i64 e.kind, .int .i64 e.num, u, .int .i64 e.ix.2, .string e.arr, s, v], .int .i64 (L : Int)] w fun r w' => r = .returned (.int .i64 (countE L e)) ∧ Ext w w'
 | 0, e, u, s, v, w, hL, hsh, hu, hs, hv => by simp [shapeB] at hsh
 | L + 1, e, u, s, v, w, hL, hsh, hu, hs, hv => by
  obtain ⟨pu, cu, rfl, hmu, -⟩ := id hu
  obtain ⟨ps, cs, rfl, hms⟩ := hs.form
  obtain ⟨pv, cv, rfl, hmv⟩ := hv.form
  have hk2 := kids_two hsh
  have HV := hid hv; have HSH := hid hsh; clear hu hs hv hsh
  generalize hn : e.kids.length = n at *
  have HN := hid hn; clear hn
  have hl1 : (0 : Int) < (L : Int) + 1 := by omega
  have hlv : decide ((0 : Int) < (L : Int) + 1) = true := decide_eq_true (by omega)
  have hwl : IntKind.i64.wrap (L : Int) = (L : Int) := by rw [IntKind.wrap_i64]; omega
  rw [show ((L + 1 : Nat) : Int) = (L : Int) + 1 by omega]
  go_enter Tryz.func97, Tryz.ntmps97
  go_wp2_with (fail)
  obtain ⟨W1, hW1⟩ : ∃ W1, w.alloc (.cells #[.int .i64 e.kind, .int .i64 e.num, .slice pu e.ix.1.length cu, .int .i64 e.ix.2, .string e.arr, .slice ps e.subs.length cs, .slice pv n cv] 101) = W1 := ⟨_, rfl⟩
  have EA : Hid (Ext w W1) := hid (by rw [← hW1]; exact (Ext.refl w).alloc _)
  have HBX : Hid (W1.heap[w.heap.size]? = some (.cells #[.int .i64 e.kind, .int .i64 e.num, .slice pu e.ix.1.length cu, .int .i64 e.ix.2, .string e.arr, .slice ps e.subs.length cs, .slice pv n cv] 101 (0, 0))) := hid (by rw [← hW1]; exact blk_at rfl)
  rw [hW1]
  clear hW1
  go_loopw [5, 6] (fun c i wr => ∃ k : Nat, k ≤ n ∧ i = .int .i64 k ∧ c = .int .i64 (1 + ((e.kids.take k).map (countE L)).sum) ∧ Ext W1 wr) (fun _ i _ => n - (intOf i).toNat)
  case atStart => exact ⟨0, by omega, rfl, by simp, Ext.refl _⟩
  case round =>
   obtain ⟨k, hk, rfl, rfl, hE⟩ := hrel
   obtain ⟨-, -, -, -, -, -, y6⟩ := blk7 (hE.blk HBX.out)
   have hbd := sum_bd (f := countE L) (B := bC L) (l := e.kids.take k) (fun x hx => countE_bd L x (shape_kids HSH.out x (List.mem_of_mem_take hx)))
   have h5 := bC_five (L := L) (by omega)
   have h6 := bC_pos L
   have h7 : ((e.kids.take k).length : Int) * bC L ≤ 2 * 63 := by
    have hl : ((e.kids.take k).length : Int) ≤ 2 := by rw [List.length_take]; omega
    have h8 : ((e.kids.take k).length : Int) * bC L ≤ 2 * bC L := Int.mul_le_mul_of_nonneg_right hl (by omega)
    omega
   obtain ⟨A, hA⟩ : ∃ A, ((e.kids.take k).map (countE L)).sum = A := ⟨_, rfl⟩
   rw [hA] at hbd ⊢
   have HA := hid hA
   have hA0 : 0 ≤ A := hbd.1
   have hA1 : A ≤ 126 := by omega
   clear hA hbd h7
   by_cases hlt : k < n
   ·obtain ⟨x, hx⟩ := get_some (xs := e.kids) (k := k) (by rw [HN.out]; exact hlt)
    obtain ⟨b, off, u', s', v', rfl, hb, c0, c1, c2, c3, c4, c5, c6, hu', ha', hs', hv'⟩ := (HV.out.ext (EA.out.trans hE)).elem hx
    have hsx := shape_kids HSH.out x (List.mem_of_getElem? hx)
    have hcx := countE_bd L x hsx
    have HX := hid hx; have HU' := hid hu'; have HS' := hid hs'; have HV' := hid hv'; have HE := hid hE; have HSX := hid hsx
    clear hx hu' hs' hv' hE hsx
    go_wp2_with (fail)
    refine (l3Count_any dd L x u' s' v' wr (by omega) HSX.out HU'.out HS'.out HV'.out).mono ?_
    rintro r w5 ⟨rfl, hE5⟩
    have E5 := hid (HE.out.trans hE5); clear hE5
    obtain ⟨C, hC⟩ : ∃ C, countE L x = C := ⟨_, rfl⟩
    rw [hC] at hcx ⊢
    have HC := hid hC; clear hC
    have hC0 := hcx.1
    have hC1 : C ≤ 63 := by omega
    clear hcx
    go_wp2
    go_roundw
    case rel => exact ⟨k + 1, by omega, by go_num, by rw [take_next HX.out, List.map_append, List.sum_append, HA.out]; simp only [List.map_cons, List.map_nil, List.sum_cons, List.sum_nil, HC.out]; congr 1; omega, E5.out⟩
    case measure => simp [intOf]; omega
   ·obtain rfl : k = n := by omega
    have HR : Hid (countE (L + 1) e = 1 + A) := hid (by simp only [countE]; rw [← HA.out, List.take_of_length_le (by rw [HN.out]; omega)])
    have E5 := hid (EA.out.trans hE); clear hE
    go_wp2
    go_ret
    exact ⟨by rw [HR.out]; rfl, E5.out⟩
def validB (arr : ByteArray) (subs : List Aff) (e : Ex) (d : Int) : Bool := decide (0 ≤ d) && (decide (d ≤ 4) && (accB arr subs d && (shapeB 5 e d && decide (countE 5 e ≤ 12))))
end Go.Proofs.YtggpjapmhakklaaGreat
namespace Go.Proofs.YtggpjapmhakklaaGreat
open Go.Lib (hid)
open Go.RowKit
theorem calls_any {l n n' : Nat} {P : Program} {f : FuncId} {args : Array Value} {w : World} {R : Ending → World → Prop} (h : CallsIn Fence.wide n P f args w R) : CallsIn (Fence.wide.inRound l) n' P f args w R := ⟨h.1, fun cs _ => h.2 cs (room_wide _)⟩
theorem rows_any {l n n' : Nat} {P : Program} {row : String} {args : Array Value} {w : World} {R : Value → World → Prop} (h : RowsIn Fence.wide n P row args w R) : RowsIn (Fence.wide.inRound l) n' P row args w R := fun c cs _ => h c cs (room_wide _)
theorem opsIn_round {l n n' : Nat} {P : Program} {ops : Array Oper} {Q : Exit → Act → World → Prop} (hd : ∀ (i : Nat) (o : Oper), ops[i]? = some o → ∀ c, o.op ≠ .defer c) :
  ∀ (is : List Nat) (a : Act) (w : World), wpOpsIn Fence.wide n P ops Q is a w → wpOpsIn (Fence.wide.inRound l) n' P ops Q is a w
 | [], a, w, h => h
 | i :: is, a, w, h => by
  simp only [wpOpsIn] at h ⊢
  cases ho : ops[i]? with
  | none => rw [ho] at h; exact opsIn_round hd is a w h
  | some o =>
   rw [ho] at h
   dsimp only at h ⊢
   by_cases hw : Region.wanted o (yielded ops a.tmps) = true
   ·rw [if_pos hw] at h ⊢
    obtain ⟨-, h⟩ := h
    refine ⟨fun _ _ => trivial, ?_⟩
    rw [Oper.semAt_eq _ _ _ (hd i o ho)] at h ⊢
    generalize (execOp a.eval o).run P w = r at h ⊢
    cases r with
    | ok x w' =>
     cases x with
     | value v => exact opsIn_round hd is _ _ h
     | skip => exact opsIn_round hd is _ _ h
     | defer d => exact opsIn_round hd is _ _ h
     | enter f args =>
      refine ⟨fun e => (by cases e), CallsIn.mono (calls_any h.2) (fun e w'' he => ?_)⟩
      cases e with
      | returned v => exact opsIn_round hd is _ _ he
      | panicked c => exact he
      | outgrown => exact he
     | row r args => exact ⟨fun e => (by cases e), RowsIn.mono (rows_any h.2) (fun v w'' he => opsIn_round hd is _ _ he)⟩
     | round l' f tmps assign body =>
      refine ⟨fun e => (by cases e), RoundIn.mono (round_any h.2) (fun e w'' he => ?_)⟩
      cases e with
      | returned v => exact opsIn_round hd is _ _ he
      | panicked c => exact he
      | outgrown => exact he
     | _ => exact h.elim
    | halt x w' => cases x <;> exact h
   ·rw [if_neg hw] at h ⊢
    exact ⟨fun _ _ => trivial, opsIn_round hd is _ _ h.2⟩
theorem wpIn_round_any {l n n' id : Nat} {P : Program} {ops : Array Oper} {Q : Exit → Act → World → Prop} {a : Act} {w : World} (hm : P.follows .mixedOrders = true) (hd : noDefer ops = true)
  (h : wpAnyIn Fence.wide n P .any ops Q ops.size (Array.replicate ops.size false) a w.drew) : (Code.region id ops true).wpIn (Fence.wide.inRound l) n' P Q a w :=
 wpIn_region_draw fun t => by
  simp only [Region.schedule, hm, Bool.true_or, if_true]
  have hd' : ∀ (i : Nat) (o : Oper), ops[i]? = some o → ∀ c, o.op ≠ .defer c := fun i o ho c e => by
   have h1 := List.all_eq_true.1 hd o (Array.mem_toList_iff.2 (Array.mem_of_getElem? ho))
   rw [e] at h1; cases h1
  exact opsIn_round hd' _ _ _ (wpAnyIn_sound ops.size t _ a _ h)
end Go.Proofs.YtggpjapmhakklaaGreat
namespace Go.Proofs.YtggpjapmhakklaaGreat
open Go.Lib (hid)
open Go.RowKit
theorem specStmtValid_any (v : Value) (arr : ByteArray) (subs : List Aff) (e : Ex) (d : Int) (w : World) (hs : StR w v arr subs e) :
  Calls Tryz.prog 66 #[v, .int .i64 d] w fun r w' => r = .returned (.bool (validB arr subs e d)) ∧ Ext w w' := by
 obtain ⟨q1, d1, q2, d2, q3, d3, q4, d4, rfl, ha, hs1, he⟩ := hs.parts
 obtain ⟨u', s', v', hcs, hu2, ha2, hs2, hv2⟩ := he.parts
 simp only [List.cons.injEq, and_true, true_and] at hcs
 obtain ⟨rfl, rfl, rfl⟩ := hcs
 have HS := hid hs1; have HU2 := hid hu2; have HS2 := hid hs2; have HV2 := hid hv2; clear hs hs1 he hu2 hs2 hv2
 by_cases h0 : d < 0
 ·have hb0 : decide (d < 0) = true := by simpa using h0
  have HR : Hid (validB arr subs e d = false) := hid (by unfold validB; rw [decide_eq_false (show ¬ 0 ≤ d by omega)]; rfl)
  clear h0
  go_enter Tryz.func66, Tryz.ntmps66
  go_wp2
  go_ret
  exact ⟨ret_bool HR.out.symm, (Ext.refl w).alloc _⟩
 have hb0 : decide (d < 0) = false := by simpa using h0
 by_cases h4 : 4 < d
 ·have hb4 : decide (4 < d) = true := by simpa using h4
  have HR : Hid (validB arr subs e d = false) := hid (by unfold validB; rw [decide_eq_false (show ¬ d ≤ 4 by omega)]; simp)
  clear h0 h4
  go_enter Tryz.func66, Tryz.ntmps66
  go_wp2
  go_ret
  exact ⟨ret_bool HR.out.symm, (Ext.refl w).alloc _⟩
 have hb4 : decide (4 < d) = false := by simpa using h4
 have H04 := hid (And.intro h0 h4); clear h0 h4
 have EA : Hid (Ext w (w.alloc (.cells #[.string arr, .slice q1 subs.length d1, .int .i64 e.kind, .int .i64 e.num, .slice q2 e.ix.1.length d2, .int .i64 e.ix.2, .string e.arr, .slice q3 e.subs.length d3, .slice q4 e.kids.length d4] 103))) := hid ((Ext.refl w).alloc _)
 have BA : Hid ((w.alloc (.cells #[.string arr, .slice q1 subs.length d1, .int .i64 e.kind, .int .i64 e.num, .slice q2 e.ix.1.length d2, .int .i64 e.ix.2, .string e.arr, .slice q3 e.subs.length d3, .slice q4 e.kids.length d4] 103)).heap[w.heap.size]? = some (.cells #[.string arr, .slice q1 subs.length d1, .int .i64 e.kind, .int .i64 e.num, .slice q2 e.ix.1.length d2, .int .i64 e.ix.2, .string e.arr, .slice q3 e.subs.length d3, .slice q4 e.kids.length d4] 103 (0, 0))) := hid (blk_at rfl)
 cases hq1 : accB arr subs d with
 | false =>
  have HR : Hid (validB arr subs e d = false) := hid (by simp [validB, hq1])
  have HQ1 := hid hq1; clear hq1
  go_enter Tryz.func66, Tryz.ntmps66
  go_wp2_with (fail)
  refine (l3Access_any arr _ subs d _ ha (HS.out.ext EA.out)).mono ?_
  rw [HQ1.out]
  rintro r W1 ⟨rfl, hE1⟩
  have E1 := hid (EA.out.trans hE1); clear hE1
  go_wp2
  go_ret
  exact ⟨ret_bool HR.out.symm, E1.out⟩
 | true =>
  have HQ1 := hid hq1; clear hq1
  go_enter Tryz.func66, Tryz.ntmps66
  go_wp2_with (fail)
  refine (l3Access_any arr _ subs d _ ha (HS.out.ext EA.out)).mono ?_
  rw [HQ1.out]
  rintro r W1 ⟨rfl, hE1⟩
  have E1 := hid (EA.out.trans hE1); have B1 := hid (hE1.blk BA.out); clear hE1
  obtain ⟨-, -, y2, y3, y4, y5, y6, y7, y8⟩ := blk9 B1.out
  cases hq2 : shapeB 5 e d with
  | false =>
   have HR : Hid (validB arr subs e d = false) := hid (by simp [validB, hq2])
   have HQ2 := hid hq2; clear hq2
   go_wp2_with (fail)
   refine (l3Shape_any d 5 e _ _ _ W1 (by omega) (HU2.out.ext E1.out) ha2 (HS2.out.ext E1.out) (HV2.out.ext E1.out)).mono ?_
   rw [HQ2.out]
   rintro r W2 ⟨rfl, hE2⟩
   have E2 := hid (E1.out.trans hE2); clear hE2 y2 y3 y4 y5 y6 y7 y8
   go_wp2
   go_ret
   exact ⟨ret_bool HR.out.symm, E2.out⟩
  | true =>
   have HQ2 := hid hq2; clear hq2
   have hcb := countE_bd 5 e HQ2.out
   have h63 := bC_five (L := 5) (by omega)
   go_wp2_with (fail)
   refine (l3Shape_any d 5 e _ _ _ W1 (by omega) (HU2.out.ext E1.out) ha2 (HS2.out.ext E1.out) (HV2.out.ext E1.out)).mono ?_
   rw [HQ2.out]
   rintro r W2 ⟨rfl, hE2⟩
   have E2 := hid (E1.out.trans hE2); have B2 := hid (hE2.blk B1.out); clear hE2 y2 y3 y4 y5 y6 y7 y8
   obtain ⟨-, -, y2, y3, y4, y5, y6, y7, y8⟩ := blk9 B2.out
   go_wp2_with (fail)
   refine (l3Count_any d 5 e _ _ _ W2 (by omega) HQ2.out (HU2.out.ext E2.out) (HS2.out.ext E2.out) (HV2.out.ext E2.out)).mono ?_
   rintro r W3 ⟨rfl, hE3⟩
   have E3 := hid (E2.out.trans hE3); clear hE3 y2 y3 y4 y5 y6 y7 y8
   obtain ⟨C, hC⟩ : ∃ C, countE 5 e = C := ⟨_, rfl⟩
   have HR : Hid (validB arr subs e d = decide (C ≤ 12)) := hid (by
    have h1 := H04.out.1; have h2 := H04.out.2
    simp only [validB, HQ1.out, HQ2.out, hC]
    rw [decide_eq_true (show 0 ≤ d by omega), decide_eq_true (show d ≤ 4 by omega)]; simp)
   rw [hC] at hcb ⊢
   clear hC
   go_wp2
   go_ret
   exact ⟨ret_bool HR.out.symm, E3.out⟩
end Go.Proofs.YtggpjapmhakklaaGreat
