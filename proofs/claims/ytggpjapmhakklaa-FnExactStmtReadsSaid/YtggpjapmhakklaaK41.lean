/- The texts S0 S1, joined. No statement is proved here. -/
import Derived.Test.YtggpjapmhakklaaK04
import Derived.Test.YtggpjapmhakklaaK09
/- Expressions of statements in memory: trees; how an argument reads as one. No statement is proved here. -/
namespace Go.Proofs.Ytggpjapmhakklaa
open Go.RowKit Go.ChangeShapes Go.WideShapes Go.ChangeAt Go.Joins

/-- A node: kind, number, index, array and subscripts, operands. -/
inductive Ex where
  | mk (kind num : Int) (ix : Aff) (arr : ByteArray) (subs : List Aff) (kids : List Ex)
def Ex.kind : Ex → Int | .mk k _ _ _ _ _ => k
def Ex.num : Ex → Int | .mk _ n _ _ _ _ => n
def Ex.ix : Ex → Aff | .mk _ _ x _ _ _ => x
def Ex.arr : Ex → ByteArray | .mk _ _ _ a _ _ => a
def Ex.subs : Ex → List Aff | .mk _ _ _ _ s _ => s
def Ex.kids : Ex → List Ex | .mk _ _ _ _ _ k => k

/-- The seven cells read as the node in w. -/
inductive ExR (w : World) : List Value → Ex → Prop
  | mk (kind num k : Int) (u s : Value) (xs : List Int) (arr : ByteArray) (subs : List Aff) (p : Option Addr) (cap : Nat) (kids : List Ex) (us : Nat → List Value) (hu : IntsAt w u xs) (ha : arr.size ≤ 9223372036854775807) (hs : AffsAt w s subs) (hl : kids.length ≤ 9223372036854775807)
      (hc : ∀ (i : Nat) (e : Ex), kids[i]? = some e → ∃ b off, p = some ⟨b, off, none⟩ ∧ b < w.heap.size ∧ ∀ (j : Nat) (v : Value), (us i)[j]? = some v → w.cell? ⟨b, off + i * 7 + j, none⟩ = some v)
      (hk : ∀ (i : Nat) (e : Ex), kids[i]? = some e → ExR w (us i) e) :
      ExR w [.int .i64 kind, .int .i64 num, u, .int .i64 k, .string arr, s, .slice p kids.length cap] (.mk kind num (xs, k) arr subs kids)
/-- A list of nodes. -/
def ExsAt (w : World) (v : Value) (es : List Ex) : Prop := ∃ p c, ∃ us : Nat → List Value, v = .slice p es.length c ∧ es.length ≤ 9223372036854775807 ∧
  (∀ (i : Nat) (e : Ex), es[i]? = some e → ∃ b off, p = some ⟨b, off, none⟩ ∧ b < w.heap.size ∧ ∀ (j : Nat) (v : Value), (us i)[j]? = some v → w.cell? ⟨b, off + i * 7 + j, none⟩ = some v) ∧ ∀ (i : Nat) (e : Ex), es[i]? = some e → ExR w (us i) e
theorem ExR.parts {w : World} {cs : List Value} {e : Ex} (h : ExR w cs e) : ∃ u s v, cs = [.int .i64 e.kind, .int .i64 e.num, u, .int .i64 e.ix.2, .string e.arr, s, v] ∧ IntsAt w u e.ix.1 ∧ e.arr.size ≤ 9223372036854775807 ∧ AffsAt w s e.subs ∧ ExsAt w v e.kids := by
  cases h with
  | mk kind num k u s xs arr subs p cap kids us hu ha hs hl hc hk => exact ⟨u, s, _, rfl, hu, ha, hs, p, cap, us, rfl, hl, hc, hk⟩
theorem ExR.of {w : World} {u s v : Value} {e : Ex} (hu : IntsAt w u e.ix.1) (ha : e.arr.size ≤ 9223372036854775807) (hs : AffsAt w s e.subs) (hv : ExsAt w v e.kids) : ExR w [.int .i64 e.kind, .int .i64 e.num, u, .int .i64 e.ix.2, .string e.arr, s, v] e := by
  obtain ⟨kind, num, ⟨xs, k⟩, arr, subs, kids⟩ := e
  obtain ⟨p, c, us, rfl, hl, hc, hk⟩ := hv
  exact .mk kind num k u s xs arr subs p c kids us hu ha hs hl hc hk
theorem ExR.ext {w w' : World} {cs : List Value} {e : Ex} (h : ExR w cs e) (hE : Ext w w') : ExR w' cs e := by
  induction h with
  | mk kind num k u s xs arr subs p cap kids us hu ha hs hl hc hk ih =>
    refine .mk kind num k u s xs arr subs p cap kids us (hu.ext hE) ha (hs.ext hE) hl (fun i e hi => ?_) ih
    obtain ⟨b, off, h1, h2, h3⟩ := hc i e hi
    exact ⟨b, off, h1, Nat.lt_of_lt_of_le h2 hE.size_le, fun j v hj => hE.keep (h3 j v hj)⟩
theorem ExsAt.ext {w w' : World} {v : Value} {es : List Ex} (h : ExsAt w v es) (hE : Ext w w') : ExsAt w' v es := by
  obtain ⟨p, c, us, hv, hl, hc, hk⟩ := h
  refine ⟨p, c, us, hv, hl, fun i e hi => ?_, fun i e hi => (hk i e hi).ext hE⟩
  obtain ⟨b, off, h1, h2, h3⟩ := hc i e hi
  exact ⟨b, off, h1, Nat.lt_of_lt_of_le h2 hE.size_le, fun j v hj => hE.keep (h3 j v hj)⟩
theorem ExsAt.form {w : World} {v : Value} {es : List Ex} (h : ExsAt w v es) : ∃ p c, v = .slice p es.length c ∧ es.length ≤ 9223372036854775807 := by
  obtain ⟨p, c, us, hv, hl, _⟩ := h; exact ⟨p, c, hv, hl⟩
/-- Element i of a list of nodes: its seven cells. -/
theorem ExsAt.elem {w : World} {p : Option Addr} {n c i : Nat} {es : List Ex} {e : Ex} (h : ExsAt w (.slice p n c) es) (hi : es[i]? = some e) :
    ∃ b off u s v, p = some ⟨b, off, none⟩ ∧ b < w.heap.size ∧ w.cell? ⟨b, off + i * 7, none⟩ = some (.int .i64 e.kind) ∧ w.cell? ⟨b, off + i * 7 + 1, none⟩ = some (.int .i64 e.num) ∧ w.cell? ⟨b, off + i * 7 + 2, none⟩ = some u ∧ w.cell? ⟨b, off + i * 7 + 3, none⟩ = some (.int .i64 e.ix.2) ∧
      w.cell? ⟨b, off + i * 7 + 4, none⟩ = some (.string e.arr) ∧ w.cell? ⟨b, off + i * 7 + 5, none⟩ = some s ∧ w.cell? ⟨b, off + i * 7 + 6, none⟩ = some v ∧ IntsAt w u e.ix.1 ∧ e.arr.size ≤ 9223372036854775807 ∧ AffsAt w s e.subs ∧ ExsAt w v e.kids := by
  obtain ⟨p', c', us, hv, hl, hc, hk⟩ := h
  simp only [Value.slice.injEq] at hv
  obtain ⟨rfl, -, rfl⟩ := hv
  obtain ⟨b, off, h1, h2, h3⟩ := hc i e hi
  obtain ⟨u, s, v, hcs, hu, ha, hs, hkk⟩ := (hk i e hi).parts
  rw [hcs] at h3
  exact ⟨b, off, u, s, v, h1, h2, h3 0 _ rfl, h3 1 _ rfl, h3 2 _ rfl, h3 3 _ rfl, h3 4 _ rfl, h3 5 _ rfl, h3 6 _ rfl, hu, ha, hs, hkk⟩

theorem cellsStr : Try.prog.cellsOf 9 = 1 := by kernel_rfl
theorem cellsIntS : Try.prog.cellsOf 22 = 1 := by kernel_rfl
theorem cellsLawAff : Try.prog.cellsOf 33 = 2 := by kernel_rfl
theorem cellsLawAffS : Try.prog.cellsOf 29 = 1 := by kernel_rfl
theorem cellsLawAcc : Try.prog.cellsOf 31 = 2 := by kernel_rfl
theorem cellsLawExpr : Try.prog.cellsOf 36 = 7 := by kernel_rfl
theorem cellsLawExprS : Try.prog.cellsOf 34 = 1 := by kernel_rfl

theorem aff_of_trod {H : Type} {enc : TypeId × Value → H} {W : World} {fuel : Nat} {u v : Value} {x : DataW H × List MemPlace} (h : DataW.trod enc Try.prog W 0 (fun _ => true) true fuel 33 [u, v] = some x) : ∃ (xs : List Int) (k : Int), IntsAt W u xs ∧ v = .int .i64 k := by
  obtain ⟨ys, n, -, -, -, hyl, hf⟩ := DataW.trod_struct Try.underlying33 h
  have g0 := hf 0 _ rfl
  have g1 := hf 1 _ rfl
  simp [cellsInt, cellsIntS] at g0 g1
  match ys, hyl, g0, g1 with
  | [y0, y1], _, g0, g1 =>
    simp at g0 g1
    obtain ⟨xs, hx, _⟩ := ints_of_trod g0
    obtain ⟨k, e0, _, _⟩ := DataW.trod_int Try.underlying3 g1
    simp only [List.cons.injEq, and_true] at e0
    exact ⟨xs, k, hx, e0⟩
theorem acc_of_trod {H : Type} {enc : TypeId × Value → H} {W : World} {fuel : Nat} {u v : Value} {x : DataW H × List MemPlace} (h : DataW.trod enc Try.prog W 0 (fun _ => true) true fuel 31 [u, v] = some x) : ∃ (a : ByteArray) (subs : List Aff), u = .string a ∧ a.size ≤ maxLen ∧ AffsAt W v subs := by
  obtain ⟨ys, n, -, -, -, hyl, hf⟩ := DataW.trod_struct Try.underlying31 h
  have g0 := hf 0 _ rfl
  have g1 := hf 1 _ rfl
  simp [cellsStr, cellsLawAffS] at g0 g1
  match ys, hyl, g0, g1 with
  | [y0, y1], _, g0, g1 =>
    simp at g0 g1
    obtain ⟨a, e0, _, ha⟩ := DataW.trod_string Try.underlying9 g0
    obtain ⟨xs, hx⟩ := affs_of_trod g1
    simp only [List.cons.injEq, and_true] at e0
    exact ⟨a, xs, e0, ha, hx⟩

set_option maxRecDepth 100000 in
set_option maxHeartbeats 1000000 in
theorem expr_of_trod {H : Type} {enc : TypeId × Value → H} {W : World} : ∀ (fuel : Nat) (cs : List Value) (x : DataW H × List MemPlace), DataW.trod enc Try.prog W 0 (fun _ => true) true fuel 36 cs = some x → ∃ e, ExR W cs e := by
  intro fuel
  induction fuel using Nat.strongRecOn with
  | ind fuel IH =>
  intro cs x h
  obtain ⟨ys, n, hfu, -, hcl, hyl, hf⟩ := DataW.trod_struct Try.underlying36 h
  rw [cellsLawExpr] at hcl
  match cs, hcl, ys, hyl with
  | [v0, v1, v2, v3, v4, v5, v6], _, [y0, y1, y2, y3, y4], _ =>
    have g0 := hf 0 _ rfl
    have g1 := hf 1 _ rfl
    have g2 := hf 2 _ rfl
    have g3 := hf 3 _ rfl
    have g4 := hf 4 _ rfl
    simp [cellsInt, cellsLawAff, cellsLawAcc, cellsLawExprS] at g0 g1 g2 g3 g4
    clear hf
    obtain ⟨kind, e0, _, _⟩ := DataW.trod_int Try.underlying3 g0
    obtain ⟨num, e1, _, _⟩ := DataW.trod_int Try.underlying3 g1
    simp only [List.cons.injEq, and_true] at e0 e1
    obtain ⟨xs, k, hx, rfl⟩ := aff_of_trod g2
    obtain ⟨arr, subs, rfl, ha', hs⟩ := acc_of_trod g3
    have ha : arr.size ≤ 9223372036854775807 := by unfold maxLen at ha'; omega
    subst e0; subst e1
    rcases DataW.trod_slice Try.underlying34 g4 with ⟨hcs, _⟩ | ⟨a, len, cap, elems, rest, n', hn', hcs, _, _, hl, hm, hlen, hel, _, _⟩
    · simp only [List.cons.injEq, and_true] at hcs
      subst hcs
      exact ⟨_, .mk kind num k v2 v5 xs arr subs none 0 [] (fun _ => []) hx ha hs (by simp) (fun i e hi => by simp at hi) (fun i e hi => by simp at hi)⟩
    · simp only [List.cons.injEq, and_true] at hcs
      subst hcs
      rw [cellsLawExpr] at hel
      have each : ∀ i, i < len → ∃ q : List Value × Ex, W.cells? 0 (a.add (i * 7)) 7 = some q.1 ∧ ExR W q.1 q.2 := fun i hi => by
        have h1 := hel i hi
        rw [List.getElem?_eq_getElem (by omega)] at h1
        obtain ⟨cs', h2, h3⟩ := Option.bind_eq_some_iff.1 h1
        obtain ⟨e, he⟩ := IH n' (by omega) cs' _ h3
        exact ⟨(cs', e), h2, he⟩
      haveI : Inhabited (List Value × Ex) := ⟨([], .mk 0 0 ([], 0) ByteArray.empty [] [])⟩
      obtain ⟨f, hf⟩ := Go.Deep.choose_lt (n := len) (p := fun i (q : List Value × Ex) => W.cells? 0 (a.add (i * 7)) 7 = some q.1 ∧ ExR W q.1 q.2) each
      have hkl : ((List.range len).map (fun i => (f i).2)).length = len := by simp
      have hget : ∀ (i : Nat) (e : Ex), ((List.range len).map (fun i => (f i).2))[i]? = some e → i < len ∧ e = (f i).2 := fun i e hi => by
        have hlt : i < len := by rw [← hkl]; exact (List.getElem?_eq_some_iff.1 hi).1
        rw [List.getElem?_map, List.getElem?_range hlt] at hi
        exact ⟨hlt, by simpa using hi.symm⟩
      obtain ⟨b, off, spot⟩ := a
      refine ⟨.mk kind num (xs, k) arr subs ((List.range len).map (fun i => (f i).2)), ?_⟩
      have hm' : len ≤ 9223372036854775807 := by unfold maxLen at hm; omega
      have := ExR.mk (w := W) kind num k v2 v5 xs arr subs (some ⟨b, off, spot⟩) cap ((List.range len).map (fun i => (f i).2)) (fun i => (f i).1) hx ha hs (by rw [hkl]; exact hm') (fun i e hi => by
        obtain ⟨hlt, _⟩ := hget i e hi
        obtain ⟨_, h7, hc⟩ := World.cells?_some (hf i hlt).1
        obtain ⟨_, h70, hc0⟩ := World.cells?_some (hf 0 (by omega)).1
        have hs0 := hc0 0 (by omega)
        rw [List.getElem?_eq_getElem (by omega)] at hs0
        have hsp := World.cell?_spot hs0
        have hspot : spot = none := by simpa [Addr.add] using hsp
        subst hspot
        have key : ∀ (j : Nat) (v : Value), (f i).1[j]? = some v → W.cell? ⟨b, off + i * 7 + j, none⟩ = some v := fun j v hj => by
          have hj7 : j < 7 := by rw [← h7]; exact (List.getElem?_eq_some_iff.1 hj).1
          have := hc j hj7
          rw [hj, Addr.add_lit, Addr.add_lit] at this
          exact this
        refine ⟨b, off, rfl, ?_, key⟩
        exact World.block_lt_of_cell? W _ (key 0 _ (List.getElem?_eq_getElem (by omega)))) (fun i e hi => by
        obtain ⟨hlt, rfl⟩ := hget i e hi
        exact (hf i hlt).2)
      rw [hkl] at this
      exact this

/-- The statement as an argument. -/
def RStmt (w : World) (v : Value) : Prop := ∃ (arr : ByteArray) (s : Value) (subs : List Aff) (cs : List Value) (e : Ex), v = .agg (.string arr :: s :: cs).toArray ∧ arr.size ≤ 9223372036854775807 ∧ AffsAt w s subs ∧ ExR w cs e
theorem cellsLawStmt : Try.prog.cellsOf 38 = 9 := by kernel_rfl
set_option maxRecDepth 100000 in
theorem open_stmt {H : Type} {enc : TypeId × Value → H} {W : World} {base : Nat} {v : Value} {d : DataW H} {p : List MemPlace} (hv : Value.okWide Try.prog W .any base 38 v) (h : DataW.Trod enc Try.prog W 0 (fun _ => true) true 38 v d p) : RStmt W v := by
  obtain ⟨cs, rfl, hsz⟩ := okWide_struct Try.underlying38 hv
  obtain ⟨fuel, hf⟩ := h
  rw [cellsLawStmt] at hsz
  obtain ⟨ys, n, hfu, -, hcl, hyl, hg⟩ := DataW.trod_struct Try.underlying38 hf
  obtain ⟨cs⟩ := cs
  simp only [Value.cells] at hg
  simp only [List.size_toArray] at hsz
  match cs, hsz, ys, hyl with
  | [v0, v1, v2, v3, v4, v5, v6, v7, v8], _, [y0, y1], _ =>
    have g0 := hg 0 _ rfl
    have g1 := hg 1 _ rfl
    simp [cellsLawAcc, cellsLawExpr] at g0 g1
    obtain ⟨arr, subs, rfl, ha', hs⟩ := acc_of_trod g0
    have ha : arr.size ≤ 9223372036854775807 := by unfold maxLen at ha'; omega
    obtain ⟨e, he⟩ := expr_of_trod _ _ _ g1
    exact ⟨arr, v1, subs, _, e, rfl, ha, hs, he⟩
end Go.Proofs.Ytggpjapmhakklaa

/- Sizes of statements. No statement is proved here. -/
namespace Go.Proofs.Ytggpjapmhakklaa
open Go.RowKit

/-- A node that is small enough to be copied. -/
inductive SmallE : Ex → Prop
  | mk (kind num : Int) (ix : Aff) (arr : ByteArray) (subs : List Aff) (kids : List Ex) (hx : ix.1.length ≤ 1048576) (ha : arr.size ≤ 1048576) (hs : SmallAs subs) (hl : kids.length ≤ 1048576) (hk : ∀ e ∈ kids, SmallE e) : SmallE (.mk kind num ix arr subs kids)
theorem blk7 {W : World} {g : Nat} {a0 a1 a2 a3 a4 a5 a6 : Value} {t : TypeId} (h : W.heap[g]? = some (.cells #[a0, a1, a2, a3, a4, a5, a6] t (0, 0))) :
    W.cell? ⟨g, 0, none⟩ = some a0 ∧ W.cell? ⟨g, 1, none⟩ = some a1 ∧ W.cell? ⟨g, 2, none⟩ = some a2 ∧ W.cell? ⟨g, 3, none⟩ = some a3 ∧ W.cell? ⟨g, 4, none⟩ = some a4 ∧ W.cell? ⟨g, 5, none⟩ = some a5 ∧ W.cell? ⟨g, 6, none⟩ = some a6 := by
  simp [World.cell?, h]

end Go.Proofs.Ytggpjapmhakklaa
