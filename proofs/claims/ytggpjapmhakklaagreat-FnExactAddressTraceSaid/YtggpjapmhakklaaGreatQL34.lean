/- The texts S0 S1 S2 Hd D3 D6 A17 Q1, joined. No statement is proved here. -/
import Derived.Test.YtggpjapmhakklaaGreatQL32
import Derived.Test.YtggpjapmhakklaaGreatQL29
import Derived.Test.YtggpjapmhakklaaGreatQL31
import Derived.Deep.RegionLaw
import Derived.Deep.RegionHeld3
import Derived.Test.YtggpjapmhakklaaGreatQL33
import Derived.Deep.AppendLies
import Derived.Deep.DeepCutAuto
set_option maxRecDepth 100000
set_option maxHeartbeats 8000000
set_option linter.unusedVariables false
set_option linter.unusedSimpArgs false
namespace Go.Proofs.YtggpjapmhakklaaGreat
open Go.Lib (hid)
open Go.RowKit Go.ChangeShapes Go.WideShapes Go.ChangeAt Go.Joins
inductive Ex where
 | mk (kind num : Int) (ix : Aff) (arr : ByteArray) (subs : List Aff) (kids : List Ex)
def Ex.kind : Ex → Int | .mk k _ _ _ _ _ => k
def Ex.num : Ex → Int | .mk _ n _ _ _ _ => n
def Ex.ix : Ex → Aff | .mk _ _ x _ _ _ => x
def Ex.arr : Ex → ByteArray | .mk _ _ _ a _ _ => a
def Ex.subs : Ex → List Aff | .mk _ _ _ _ s _ => s
def Ex.kids : Ex → List Ex | .mk _ _ _ _ _ k => k
inductive ExR (w : World) : List Value → Ex → Prop
 | mk (kind num k : Int) (u s : Value) (xs : List Int) (arr : ByteArray) (subs : List Aff) (p : Option Addr) (cap : Nat) (kids : List Ex) (us : Nat → List Value) (hu : IntsAt w u xs) (ha : arr.size ≤ 9223372036854775807) (hs : AffsAt w s subs) (hl : kids.length ≤ 9223372036854775807)
   (hc : ∀ (i : Nat) (e : Ex), kids[i]? = some e → ∃ b off, p = some ⟨b, off, none⟩ ∧ b < w.heap.size ∧ ∀ (j : Nat) (v : Value), (us i)[j]? = some v → w.cell? ⟨b, off + i * 7 + j, none⟩ = some v)
   (hk : ∀ (i : Nat) (e : Ex), kids[i]? = some e → ExR w (us i) e) :
   ExR w [.int .i64 kind, .int .i64 num, u, .int .i64 k, .string arr, s, .slice p kids.length cap] (.mk kind num (xs, k) arr subs kids)
def ExsAt (w : World) (v : Value) (es : List Ex) : Prop := ∃ p c, ∃ us : Nat → List Value, v = .slice p es.length c ∧ es.length ≤ 9223372036854775807 ∧
 (∀ (i : Nat) (e : Ex), es[i]? = some e → ∃ b off, p = some ⟨b, off, none⟩ ∧ b < w.heap.size ∧ ∀ (j : Nat) (v : Value), (us i)[j]? = some v → w.cell? ⟨b, off + i * 7 + j, none⟩ = some v) ∧ ∀ (i : Nat) (e : Ex), es[i]? = some e → ExR w (us i) e
theorem ExR.parts {w : World} {cs : List Value} {e : Ex} (h : ExR w cs e) : ∃ u s v, cs = [.int .i64 e.kind, .int .i64 e.num, u, .int .i64 e.ix.2, .string e.arr, s, v] ∧ IntsAt w u e.ix.1 ∧ e.arr.size ≤ 9223372036854775807 ∧ AffsAt w s e.subs ∧ ExsAt w v e.kids := by
 cases h with
 | mk kind num k u s xs arr subs p cap kids us hu ha hs hl hc hk => exact ⟨u, s, _, rfl, hu, ha, hs, p, cap, us, rfl, hl, hc, hk⟩
theorem ExR.of {w : World} {u s v : Value} {e : Ex} (hu : IntsAt w u e.ix.1) (ha : e.arr.size ≤ 9223372036854775807) (hs : AffsAt w s e.subs) (hv : ExsAt w v e.kids) : ExR w [.int .i64 e.kind, .int .i64 e.num, u, .int .i64 e.ix.2, .string e.arr, s, v] e := by
 obtain ⟨kind, num, ⟨xs, k⟩, arr, subs, kids⟩ := e
 obtain ⟨p, c, us, rfl, hl, hc, hk⟩ := hv
 exact .mk kind num k u s xs arr subs p c kids us hu ha hs hl hc hk
theorem ExR.ext {w w' : World} {cs : List Value} {e : Ex} (h : ExR w cs e) (hE : Ext w w') : ExR w' cs e := by
 induction h with
 | mk kind num k u s xs arr subs p cap kids us hu ha hs hl hc hk ih =>
  refine .mk kind num k u s xs arr subs p cap kids us (hu.ext hE) ha (hs.ext hE) hl (fun i e hi => ?_) ih
  obtain ⟨b, off, h1, h2, h3⟩ := hc i e hi
  exact ⟨b, off, h1, Nat.lt_of_lt_of_le h2 hE.size_le, fun j v hj => hE.keep (h3 j v hj)⟩
theorem ExsAt.ext {w w' : World} {v : Value} {es : List Ex} (h : ExsAt w v es) (hE : Ext w w') : ExsAt w' v es := by
 obtain ⟨p, c, us, hv, hl, hc, hk⟩ := h
 refine ⟨p, c, us, hv, hl, fun i e hi => ?_, fun i e hi => (hk i e hi).ext hE⟩
 obtain ⟨b, off, h1, h2, h3⟩ := hc i e hi
 exact ⟨b, off, h1, Nat.lt_of_lt_of_le h2 hE.size_le, fun j v hj => hE.keep (h3 j v hj)⟩
theorem ExsAt.form {w : World} {v : Value} {es : List Ex} (h : ExsAt w v es) : ∃ p c, v = .slice p es.length c ∧ es.length ≤ 9223372036854775807 := by
 obtain ⟨p, c, us, hv, hl, _⟩ := h; exact ⟨p, c, hv, hl⟩
theorem ExsAt.elem {w : World} {p : Option Addr} {n c i : Nat} {es : List Ex} {e : Ex} (h : ExsAt w (.slice p n c) es) (hi : es[i]? = some e) :
  ∃ b off u s v, p = some ⟨b, off, none⟩ ∧ b < w.heap.size ∧ w.cell? ⟨b, off + i * 7, none⟩ = some (.int .i64 e.kind) ∧ w.cell? ⟨b, off + i * 7 + 1, none⟩ = some (.int .i64 e.num) ∧ w.cell? ⟨b, off + i * 7 + 2, none⟩ = some u ∧ w.cell? ⟨b, off + i * 7 + 3, none⟩ = some (.int .i64 e.ix.2) ∧
   w.cell? ⟨b, off + i * 7 + 4, none⟩ = some (.string e.arr) ∧ w.cell? ⟨b, off + i * 7 + 5, none⟩ = some s ∧ w.cell? ⟨b, off + i * 7 + 6, none⟩ = some v ∧ IntsAt w u e.ix.1 ∧ e.arr.size ≤ 9223372036854775807 ∧ AffsAt w s e.subs ∧ ExsAt w v e.kids := by
 obtain ⟨p', c', us, hv, hl, hc, hk⟩ := h
 simp only [Value.slice.injEq] at hv
 obtain ⟨rfl, -, rfl⟩ := hv
 obtain ⟨b, off, h1, h2, h3⟩ := hc i e hi
 obtain ⟨u, s, v, hcs, hu, ha, hs, hkk⟩ := (hk i e hi).parts
 rw [hcs] at h3
 exact ⟨b, off, u, s, v, h1, h2, h3 0 _ rfl, h3 1 _ rfl, h3 2 _ rfl, h3 3 _ rfl, h3 4 _ rfl, h3 5 _ rfl, h3 6 _ rfl, hu, ha, hs, hkk⟩
theorem cellsStr : Tryz.prog.cellsOf 9 = 1 := by kernel_rfl
theorem cellsIntS : Tryz.prog.cellsOf 27 = 1 := by kernel_rfl
theorem cellsLawAff : Tryz.prog.cellsOf 201 = 2 := by kernel_rfl
theorem cellsLawAffS : Tryz.prog.cellsOf 195 = 1 := by kernel_rfl
theorem cellsLawAcc : Tryz.prog.cellsOf 200 = 2 := by kernel_rfl
theorem cellsLawExpr : Tryz.prog.cellsOf 204 = 7 := by kernel_rfl
theorem cellsLawExprS : Tryz.prog.cellsOf 202 = 1 := by kernel_rfl
theorem aff_of_trod {H : Type} {enc : TypeId × Value → H} {W : World} {fuel : Nat} {u v : Value} {x : DataW H × List MemPlace} (h : DataW.trod enc Tryz.prog W 0 (fun _ => true) true fuel 201 [u, v] = some x) : ∃ (xs : List Int) (k : Int), IntsAt W u xs ∧ v = .int .i64 k := by
 obtain ⟨ys, n, -, -, -, hyl, hf⟩ := DataW.trod_struct Tryz.underlying201 h
 have g0 := hf 0 _ rfl
 have g1 := hf 1 _ rfl
 simp [cellsInt, cellsIntS] at g0 g1
 match ys, hyl, g0, g1 with
 | [y0, y1], _, g0, g1 =>
  simp at g0 g1
  obtain ⟨xs, hx, _⟩ := ints_of_trod g0
  obtain ⟨k, e0, _, _⟩ := DataW.trod_int Tryz.underlying3 g1
  simp only [List.cons.injEq, and_true] at e0
  exact ⟨xs, k, hx, e0⟩
theorem acc_of_trod {H : Type} {enc : TypeId × Value → H} {W : World} {fuel : Nat} {u v : Value} {x : DataW H × List MemPlace} (h : DataW.trod enc Tryz.prog W 0 (fun _ => true) true fuel 200 [u, v] = some x) : ∃ (a : ByteArray) (subs : List Aff), u = .string a ∧ a.size ≤ maxLen ∧ AffsAt W v subs := by
 obtain ⟨ys, n, -, -, -, hyl, hf⟩ := DataW.trod_struct Tryz.underlying200 h
 have g0 := hf 0 _ rfl
 have g1 := hf 1 _ rfl
 simp [cellsStr, cellsLawAffS] at g0 g1
 match ys, hyl, g0, g1 with
 | [y0, y1], _, g0, g1 =>
  simp at g0 g1
  obtain ⟨a, e0, _, ha⟩ := DataW.trod_string Tryz.underlying9 g0
  obtain ⟨xs, hx⟩ := affs_of_trod g1
  simp only [List.cons.injEq, and_true] at e0
  exact ⟨a, xs, e0, ha, hx⟩
theorem expr_of_trod {H : Type} {enc : TypeId × Value → H} {W : World} : ∀ (fuel : Nat) (cs : List Value) (x : DataW H × List MemPlace), DataW.trod enc Tryz.prog W 0 (fun _ => true) true fuel 204 cs = some x → ∃ e, ExR W cs e := by
 intro fuel
 induction fuel using Nat.strongRecOn with
 | ind fuel IH =>
 intro cs x h
 obtain ⟨ys, n, hfu, -, hcl, hyl, hf⟩ := DataW.trod_struct Tryz.underlying204 h
 rw [cellsLawExpr] at hcl
 match cs, hcl, ys, hyl with
 | [v0, v1, v2, v3, v4, v5, v6], _, [y0, y1, y2, y3, y4], _ =>
  have g0 := hf 0 _ rfl
  have g1 := hf 1 _ rfl
  have g2 := hf 2 _ rfl
  have g3 := hf 3 _ rfl
  have g4 := hf 4 _ rfl
  simp [cellsInt, cellsLawAff, cellsLawAcc, cellsLawExprS] at g0 g1 g2 g3 g4
  clear hf
  obtain ⟨kind, e0, _, _⟩ := DataW.trod_int Tryz.underlying3 g0
  obtain ⟨num, e1, _, _⟩ := DataW.trod_int Tryz.underlying3 g1
  simp only [List.cons.injEq, and_true] at e0 e1
  obtain ⟨xs, k, hx, rfl⟩ := aff_of_trod g2
  obtain ⟨arr, subs, rfl, ha', hs⟩ := acc_of_trod g3
  have ha : arr.size ≤ 9223372036854775807 := by unfold maxLen at ha'; omega
  subst e0; subst e1
  rcases DataW.trod_slice Tryz.underlying202 g4 with ⟨hcs, _⟩ | ⟨a, len, cap, elems, rest, n', hn', hcs, _, _, hl, hm, hlen, hel, _, _⟩
  ·simp only [List.cons.injEq, and_true] at hcs
   subst hcs
   exact ⟨_, .mk kind num k v2 v5 xs arr subs none 0 [] (fun _ => []) hx ha hs (by simp) (fun i e hi => by simp at hi) (fun i e hi => by simp at hi)⟩
  ·simp only [List.cons.injEq, and_true] at hcs
   subst hcs
   rw [cellsLawExpr] at hel
   have each : ∀ i, i < len → ∃ q : List Value × Ex, W.cells? 0 (a.add (i * 7)) 7 = some q.1 ∧ ExR W q.1 q.2 := fun i hi => by
    have h1 := hel i hi
    rw [List.getElem?_eq_getElem (by omega)] at h1
    obtain ⟨cs', h2, h3⟩ := Option.bind_eq_some_iff.1 h1
    obtain ⟨e, he⟩ := IH n' (by omega) cs' _ h3
    exact ⟨(cs', e), h2, he⟩
   haveI : Inhabited (List Value × Ex) := ⟨([], .mk 0 0 ([], 0) ByteArray.empty [] [])⟩
   obtain ⟨f, hf⟩ := Go.Deep.choose_lt (n := len) (p := fun i (q : List Value × Ex) => W.cells? 0 (a.add (i * 7)) 7 = some q.1 ∧ ExR W q.1 q.2) each
   have hkl : ((List.range len).map (fun i => (f i).2)).length = len := by simp
   have hget : ∀ (i : Nat) (e : Ex), ((List.range len).map (fun i => (f i).2))[i]? = some e → i < len ∧ e = (f i).2 := fun i e hi => by
    have hlt : i < len := by rw [← hkl]; exact (List.getElem?_eq_some_iff.1 hi).1
    rw [List.getElem?_map, List.getElem?_range hlt] at hi
    exact ⟨hlt, by simpa using hi.symm⟩
   obtain ⟨b, off, spot⟩ := a
   refine ⟨.mk kind num (xs, k) arr subs ((List.range len).map (fun i => (f i).2)), ?_⟩
   have hm' : len ≤ 9223372036854775807 := by unfold maxLen at hm; omega
   have := ExR.mk (w := W) kind num k v2 v5 xs arr subs (some ⟨b, off, spot⟩) cap ((List.range len).map (fun i => (f i).2)) (fun i => (f i).1) hx ha hs (by rw [hkl]; exact hm') (fun i e hi => by
    obtain ⟨hlt, _⟩ := hget i e hi
    obtain ⟨_, h7, hc⟩ := World.cells?_some (hf i hlt).1
    obtain ⟨_, h70, hc0⟩ := World.cells?_some (hf 0 (by omega)).1
    have hs0 := hc0 0 (by omega)
    rw [List.getElem?_eq_getElem (by omega)] at hs0
    have hsp := World.cell?_spot hs0
    have hspot : spot = none := by simpa [Addr.add] using hsp
    subst hspot
    have key : ∀ (j : Nat) (v : Value), (f i).1[j]? = some v → W.cell? ⟨b, off + i * 7 + j, none⟩ = some v := fun j v hj => by
     have hj7 : j < 7 := by rw [← h7]; exact (List.getElem?_eq_some_iff.1 hj).1
     have := hc j hj7
     rw [hj, Addr.add_lit, Addr.add_lit] at this
     exact this
    refine ⟨b, off, rfl, ?_, key⟩
    exact World.block_lt_of_cell? W _ (key 0 _ (List.getElem?_eq_getElem (by omega)))) (fun i e hi => by
    obtain ⟨hlt, rfl⟩ := hget i e hi
    exact (hf i hlt).2)
   rw [hkl] at this
   exact this
end Go.Proofs.YtggpjapmhakklaaGreat
namespace Go.Proofs.YtggpjapmhakklaaGreat
open Go.Lib (hid)
open Go.RowKit
inductive SmallE : Ex → Prop
 | mk (kind num : Int) (ix : Aff) (arr : ByteArray) (subs : List Aff) (kids : List Ex) (hx : ix.1.length ≤ 1048576) (ha : arr.size ≤ 1048576) (hs : SmallAs subs) (hl : kids.length ≤ 1048576) (hk : ∀ e ∈ kids, SmallE e) : SmallE (.mk kind num ix arr subs kids)
theorem blk7 {W : World} {g : Nat} {a0 a1 a2 a3 a4 a5 a6 : Value} {t : TypeId} (h : W.heap[g]? = some (.cells #[a0, a1, a2, a3, a4, a5, a6] t (0, 0))) :
  W.cell? ⟨g, 0, none⟩ = some a0 ∧ W.cell? ⟨g, 1, none⟩ = some a1 ∧ W.cell? ⟨g, 2, none⟩ = some a2 ∧ W.cell? ⟨g, 3, none⟩ = some a3 ∧ W.cell? ⟨g, 4, none⟩ = some a4 ∧ W.cell? ⟨g, 5, none⟩ = some a5 ∧ W.cell? ⟨g, 6, none⟩ = some a6 := by
 simp [World.cell?, h]
end Go.Proofs.YtggpjapmhakklaaGreat
namespace Go.Proofs.YtggpjapmhakklaaGreat
open Go.Lib (hid)
open Go.RowKit
inductive ExO (B : Nat) (w : World) : List Value → Ex → Prop
 | mk (kind num k : Int) (u s : Value) (xs : List Int) (arr : ByteArray) (subs : List Aff) (p : Option Addr) (cap : Nat) (kids : List Ex) (us : Nat → List Value) (vs : List Value) (hu : IntsOwn B w u xs) (ha : arr.size ≤ 9223372036854775807) (hs : AffsOwn B w s subs)
   (ho : w.ownsRow B 101 7 (.slice p kids.length cap) kids.length vs)
   (hv : ∀ (i : Nat) (e : Ex), kids[i]? = some e → ∀ (j : Nat) (v : Value), (us i)[j]? = some v → vs[i * 7 + j]? = some v)
   (hk : ∀ (i : Nat) (e : Ex), kids[i]? = some e → ExO B w (us i) e) :
   ExO B w [.int .i64 kind, .int .i64 num, u, .int .i64 k, .string arr, s, .slice p kids.length cap] (.mk kind num (xs, k) arr subs kids)
theorem ExO.map {B B' : Nat} {w w' : World} {cs : List Value} {e : Ex} (h : ExO B w cs e) (hi : ∀ {v xs}, IntsOwn B w v xs → IntsOwn B' w' v xs) (ha : ∀ {v xs}, AffsOwn B w v xs → AffsOwn B' w' v xs) (hr : ∀ {v n vs}, w.ownsRow B 101 7 v n vs → w'.ownsRow B' 101 7 v n vs) : ExO B' w' cs e := by
 induction h with
 | mk kind num k u s xs arr subs p cap kids us vs hu har hs ho hv hk ih => exact .mk kind num k u s xs arr subs p cap kids us vs (hi hu) har (ha hs) (hr ho) hv ih
theorem ExO.ext {B : Nat} {w w' : World} {cs : List Value} {e : Ex} (h : ExO B w cs e) (hE : Ext w w') : ExO B w' cs e := h.map (fun h => h.ext hE) (fun h => h.ext hE) (fun h => ownsRow_ext h hE)
theorem ExO.weak {B B' : Nat} {w : World} {cs : List Value} {e : Ex} (h : ExO B w cs e) (hB : B' ≤ B) : ExO B' w cs e := h.map (fun h => h.weak hB) (fun h => h.weak hB) (fun h => ownsRow_weak h hB)
theorem ExO.setOld {B : Nat} {w : World} {cs : List Value} {e : Ex} (h : ExO B w cs e) {p : Addr} (hp : p.block < B) (u : Value) : ExO B (w.setCell p u) cs e := h.map (fun h => h.setOld hp u) (fun h => h.setOld hp u) (fun h => ownsRow_setCell_below h hp u)
def ExsO (B : Nat) (w : World) (v : Value) (es : List Ex) : Prop := ∃ p c, ∃ us : Nat → List Value, ∃ vs, v = .slice p es.length c ∧ w.ownsRow B 101 7 v es.length vs ∧
 (∀ (i : Nat) (e : Ex), es[i]? = some e → ∀ (j : Nat) (v : Value), (us i)[j]? = some v → vs[i * 7 + j]? = some v) ∧ ∀ (i : Nat) (e : Ex), es[i]? = some e → ExO B w (us i) e
theorem ExO.of {B : Nat} {w : World} {u s v : Value} {kind num k : Int} {xs : List Int} {arr : ByteArray} {subs : List Aff} {kids : List Ex} (hu : IntsOwn B w u xs) (ha : arr.size ≤ 9223372036854775807) (hs : AffsOwn B w s subs) (hv : ExsO B w v kids) :
  ExO B w [.int .i64 kind, .int .i64 num, u, .int .i64 k, .string arr, s, v] (.mk kind num (xs, k) arr subs kids) := by
 obtain ⟨p, c, us, vs, rfl, ho, h1, h2⟩ := hv
 exact .mk kind num k u s xs arr subs p c kids us vs hu ha hs ho h1 h2
theorem ExO.at {B : Nat} {w : World} {cs : List Value} {e : Ex} (h : ExO B w cs e) : ExR w cs e := by
 induction h with
 | mk kind num k u s xs arr subs p cap kids us vs hu ha hs ho hv hk ih =>
  have hl : kids.length ≤ 9223372036854775807 := by
   rcases ho.2 with ⟨_, hn⟩ | ⟨g, c, cur, _, _, _, h1, h2, _⟩
   ·omega
   ·unfold maxLen at h2; omega
  refine .mk kind num k u s xs arr subs p cap kids us hu.at ha hs.at hl (fun i e hi => ?_) ih
  have hlt := (List.getElem?_eq_some_iff.1 hi).1
  rcases ho.2 with ⟨_, hn⟩ | ⟨g, c, cur, hv', _, hgh, _⟩
  ·omega
  ·cases hv'
   refine ⟨g, 0, rfl, (Array.getElem?_eq_some_iff.1 hgh).1, fun j v hj => ?_⟩
   have h1 := hv i e hi j v hj
   have h2 := World.ownsRow.cells ho (g := g) rfl (i * 7 + j) v h1
   rw [Addr.add_lit, Nat.zero_add] at h2
   rw [Nat.zero_add]
   exact h2
theorem ExsO.at {B : Nat} {w : World} {v : Value} {es : List Ex} (h : ExsO B w v es) : ExsAt w v es := by
 have h1 := (ExO.of (kind := 0) (num := 0) (k := 0) (xs := []) (arr := ByteArray.empty) (subs := []) (u := .slice none 0 0) (s := .slice none 0 0) (World.ownsRow_nil w B _ _) (by decide) ⟨[], World.ownsRow_nil w B _ _, fun i x hi => by simp at hi⟩ h).at.parts
 obtain ⟨u, s, v', hcs, _, _, _, hv⟩ := h1
 simp only [List.cons.injEq, and_true] at hcs
 rw [hcs.2.2.2.2.2.2]
 exact hv
theorem toAccess_any (arr : ByteArray) (s : Value) (subs : List Aff) (w : World) (hs : AffsAt w s subs) (h1 : SmallAs subs) :
  Calls Tryz.prog 132 #[.agg #[.string arr, s]] w fun e w' => ∃ q d, e = .returned (.agg #[.string arr, .slice q subs.length d]) ∧ AffsOwn w.heap.size w' (.slice q subs.length d) subs ∧ Ext w w' := by
 obtain ⟨p, c, rfl, hm⟩ := hs.form
 have HS := hid hs; have H1 := hid h1; clear hs h1
 generalize hga : w.heap.size = ga at *
 have HGA := hid hga; clear hga
 go_enter Tryz.func132, Tryz.ntmps132
 go_wp2_with (fail)
 refine (toAffineS_any p _ c subs _ rfl (HS.out.ext ((((Ext.refl w).alloc _).alloc _).alloc _)) H1.out).mono ?_
 rintro e W1 ⟨q, d, rfl, hv, hE⟩
 have E1 : Hid (Ext w W1) := hid (((((Ext.refl w).alloc _).alloc _).alloc _).trans hE)
 have BR := hE.blk (g := ga + 1) (blk_old (blk_at (by simp [HGA.out])))
 have BO := hE.blk (g := ga + 1 + 1) (blk_at (by simp [HGA.out]))
 have hl := lt_of_block BO
 have HV := hid (hv.weak (B' := ga + 1 + 1 + 1) (by simp [HGA.out]))
 obtain ⟨o0, o1, f0, f1⟩ := blk2 BO
 obtain ⟨r0, r1, e0, e1⟩ := blk2 BR
 clear hE hv
 rw [HGA.out]
 go_wp2
 refine bodyPost_ret (v := .agg #[.string arr, .slice q subs.length d]) (by simp [results, Tryz.results132, go_sem, r0, r1]) rfl ⟨_, _, rfl, ?_, ?_⟩
 ·refine AffsOwn.weak (B := ga + 1 + 1 + 1) ?_ (by omega)
  repeat (refine AffsOwn.setOld ?_ (by simp <;> omega) _)
  exact HV.out
 ·repeat (refine Ext.setCell ?_ (by rw [HGA.out]; simp <;> omega) _)
  exact E1.out
theorem ExO.seven {B : Nat} {w : World} {cs : List Value} {e : Ex} (h : ExO B w cs e) : ∃ kind num q1 n1 d1 k arr q2 n2 d2 q3 n3 d3, cs = [.int .i64 kind, .int .i64 num, .slice q1 n1 d1, .int .i64 k, .string arr, .slice q2 n2 d2, .slice q3 n3 d3] := by
 cases h with
 | mk kind num k u s xs arr subs p cap kids us vs hu ha hs ho hv hk =>
  obtain ⟨q1, d1, rfl, -, -⟩ := hu.at
  obtain ⟨q2, d2, rfl, -⟩ := hs.at.form
  exact ⟨_, _, _, _, _, _, _, _, _, _, _, _, _, rfl⟩
def set7 (l : List Value) (m : Nat) (a0 a1 a2 a3 a4 a5 a6 : Value) : List Value := ((((((l.set m a0).set (m + 1) a1).set (m + 2) a2).set (m + 3) a3).set (m + 4) a4).set (m + 5) a5).set (m + 6) a6
theorem set7_out {l : List Value} {m i : Nat} {a0 a1 a2 a3 a4 a5 a6 : Value} (h : i < m ∨ m + 6 < i) : (set7 l m a0 a1 a2 a3 a4 a5 a6)[i]? = l[i]? := by
 unfold set7
 rw [List.getElem?_set_ne (by omega), List.getElem?_set_ne (by omega), List.getElem?_set_ne (by omega), List.getElem?_set_ne (by omega), List.getElem?_set_ne (by omega), List.getElem?_set_ne (by omega), List.getElem?_set_ne (by omega)]
theorem set7_in {l : List Value} {m j : Nat} {a0 a1 a2 a3 a4 a5 a6 v : Value} (hl : m + 6 < l.length) (h : [a0, a1, a2, a3, a4, a5, a6][j]? = some v) : (set7 l m a0 a1 a2 a3 a4 a5 a6)[m + j]? = some v := by
 have hj : j < 7 := (List.getElem?_eq_some_iff.1 h).1
 unfold set7
 match j, hj, h with
 | 0, _, h => simp at h; subst h; (repeat (rw [List.getElem?_set_ne (by omega)])); rw [Nat.add_zero, List.getElem?_set_self (by omega)]
 | 1, _, h => simp at h; subst h; (repeat (rw [List.getElem?_set_ne (by omega)])); rw [List.getElem?_set_self (by simp; omega)]
 | 2, _, h => simp at h; subst h; (repeat (rw [List.getElem?_set_ne (by omega)])); rw [List.getElem?_set_self (by simp; omega)]
 | 3, _, h => simp at h; subst h; (repeat (rw [List.getElem?_set_ne (by omega)])); rw [List.getElem?_set_self (by simp; omega)]
 | 4, _, h => simp at h; subst h; (repeat (rw [List.getElem?_set_ne (by omega)])); rw [List.getElem?_set_self (by simp; omega)]
 | 5, _, h => simp at h; subst h; (repeat (rw [List.getElem?_set_ne (by omega)])); rw [List.getElem?_set_self (by simp; omega)]
 | 6, _, h => simp at h; subst h; rw [List.getElem?_set_self (by simp; omega)]
def put7 (w : World) (g m : Nat) (a0 a1 a2 a3 a4 a5 a6 : Value) : World := ((((((w.setCell ⟨g, m, none⟩ a0).setCell ⟨g, m + 1, none⟩ a1).setCell ⟨g, m + 2, none⟩ a2).setCell ⟨g, m + 3, none⟩ a3).setCell ⟨g, m + 4, none⟩ a4).setCell ⟨g, m + 5, none⟩ a5).setCell ⟨g, m + 6, none⟩ a6
theorem put7_own {B g n cap m : Nat} {e : TypeId} {w : World} {vs : List Value} {a0 a1 a2 a3 a4 a5 a6 : Value} (h : w.ownsRow B e 7 (.slice (some ⟨g, 0, none⟩) n cap) n vs) : (put7 w g m a0 a1 a2 a3 a4 a5 a6).ownsRow B e 7 (.slice (some ⟨g, 0, none⟩) n cap) n (set7 vs m a0 a1 a2 a3 a4 a5 a6) :=
 ((((((((h.stored m a0).1.stored (m + 1) a1).1.stored (m + 2) a2).1.stored (m + 3) a3).1.stored (m + 4) a4).1.stored (m + 5) a5).1).stored (m + 6) a6).1
theorem put7_exo {B g m : Nat} {w : World} {cs : List Value} {e : Ex} {a0 a1 a2 a3 a4 a5 a6 : Value} (h : ExO B w cs e) (hg : g < B) : ExO B (put7 w g m a0 a1 a2 a3 a4 a5 a6) cs e :=
 ((((((h.setOld (p := ⟨g, m, none⟩) hg a0).setOld (p := ⟨g, m + 1, none⟩) hg a1).setOld (p := ⟨g, m + 2, none⟩) hg a2).setOld (p := ⟨g, m + 3, none⟩) hg a3).setOld (p := ⟨g, m + 4, none⟩) hg a4).setOld (p := ⟨g, m + 5, none⟩) hg a5).setOld (p := ⟨g, m + 6, none⟩) hg a6
theorem put7_ext {W w : World} {g m : Nat} {a0 a1 a2 a3 a4 a5 a6 : Value} (h : Ext W w) (hg : W.heap.size ≤ g) : Ext W (put7 w g m a0 a1 a2 a3 a4 a5 a6) :=
 ((((((h.setCell (p := ⟨g, m, none⟩) hg a0).setCell (p := ⟨g, m + 1, none⟩) hg a1).setCell (p := ⟨g, m + 2, none⟩) hg a2).setCell (p := ⟨g, m + 3, none⟩) hg a3).setCell (p := ⟨g, m + 4, none⟩) hg a4).setCell (p := ⟨g, m + 5, none⟩) hg a5).setCell (p := ⟨g, m + 6, none⟩) hg a6
def RowE (B Bi g n : Nat) (es : List Ex) (k : Nat) (w : World) : Prop := ∃ (vs : List Value) (us : Nat → List Value), w.ownsRow B 101 7 (.slice (some ⟨g, 0, none⟩) n n) n vs ∧
 ∀ (i : Nat) (e : Ex), i < k → es[i]? = some e → (us i).length = 7 ∧ (∀ (j : Nat) (v : Value), (us i)[j]? = some v → vs[i * 7 + j]? = some v) ∧ ExO Bi w (us i) e
theorem RowE.open' {B Bi g n k : Nat} {es : List Ex} {w w1 : World} (h : RowE B Bi g n es k w) (hE : Ext w w1) (hk : k < n) :
  (∀ j, w1.frozen? ⟨g, k * 7 + j, none⟩ = false) ∧ (∀ j, j < 7 → ∃ v, w1.cell? ⟨g, k * 7 + j, none⟩ = some v) ∧ B ≤ g ∧ g < w1.heap.size := by
 obtain ⟨vs, us, ho, _⟩ := h
 have ho := ownsRow_ext ho hE
 have hl := ho.1
 have := ho.lt g rfl
 refine ⟨fun j => ho.frozenAt _, fun j hj => ?_, this.1, this.2⟩
 rw [ho.cellAt (k * 7 + j) (by omega)]; exact get_some (by omega)
theorem RowE.step {B g n k : Nat} {es : List Ex} {w w1 : World} {a0 a1 a2 a3 a4 a5 a6 : Value} {x : Ex} (h : RowE B (g + 1) g n es k w) (hE : Ext w w1) (hk : k < n) (hx : es[k]? = some x) (hr : ExO (g + 1) w1 [a0, a1, a2, a3, a4, a5, a6] x) :
  RowE B (g + 1) g n es (k + 1) (put7 w1 g (k * 7) a0 a1 a2 a3 a4 a5 a6) := by
 obtain ⟨vs, us, ho, hv⟩ := h
 have ho := ownsRow_ext ho hE
 have hl := ho.1
 refine ⟨_, fun i => if i = k then [a0, a1, a2, a3, a4, a5, a6] else us i, put7_own ho, fun i y hi hy => ?_⟩
 by_cases e : i = k
 ·subst e
  rw [hx] at hy; cases hy
  simp only [if_true]
  exact ⟨rfl, fun j v hj => set7_in (by omega) hj, put7_exo hr (by omega)⟩
 ·simp only [if_neg e]
  obtain ⟨h7, h0, h1⟩ := hv i y (by omega) hy
  refine ⟨h7, fun j v hj => ?_, put7_exo (h1.ext hE) (by omega)⟩
  have hj7 : j < 7 := by rw [← h7]; exact (List.getElem?_eq_some_iff.1 hj).1
  rw [set7_out (by omega)]
  exact h0 j v hj
theorem RowE.done {B g n : Nat} {es : List Ex} {w : World} (h : RowE B (g + 1) g n es n w) (hn : es.length = n) (hB : B ≤ g) : ExsO B w (.slice (some ⟨g, 0, none⟩) n n) es := by
 obtain ⟨vs, us, ho, hv⟩ := h
 refine ⟨_, n, us, vs, by rw [hn], by rw [hn]; exact ho, fun i e hi j v hj => ?_, fun i e hi => ?_⟩
 ·exact (hv i e (by rw [← hn]; exact (List.getElem?_eq_some_iff.1 hi).1) hi).2.1 j v hj
 ·exact (hv i e (by rw [← hn]; exact (List.getElem?_eq_some_iff.1 hi).1) hi).2.2.weak (by omega)
theorem infoExpr : (Tryz.prog.info? 101).map (fun i => (i.zero, i.size, i.bytes)) = some (some (.agg #[.int .i64 0, .int .i64 0, .slice none 0 0, .int .i64 0, .string ⟨#[]⟩, .slice none 0 0, .slice none 0 0]), 7, 112) := by kernel_rfl
def CpE (w : World) (cs : List Value) (e : Ex) : Prop := SmallE e → ∀ (w' : World), Ext w w' → Calls Tryz.prog 133 #[.agg cs.toArray] w' fun r w2 => (∃ cs2, r = .returned (.agg cs2.toArray) ∧ ExO w'.heap.size w2 cs2 e) ∧ Ext w' w2
theorem toExprS_of (w0 : World) (p : Option Addr) (n c : Nat) (es : List Ex) (us : Nat → List Value) (hn : es.length = n) (hm : n ≤ 1048576)
  (hc : ∀ (i : Nat) (e : Ex), es[i]? = some e → ∃ b off, p = some ⟨b, off, none⟩ ∧ b < w0.heap.size ∧ ∀ (j : Nat) (v : Value), (us i)[j]? = some v → w0.cell? ⟨b, off + i * 7 + j, none⟩ = some v)
  (hk : ∀ (i : Nat) (e : Ex), es[i]? = some e → ExR w0 (us i) e) (IH : ∀ (i : Nat) (e : Ex), es[i]? = some e → CpE w0 (us i) e) (hsm : ∀ e ∈ es, SmallE e) (w : World) (hE0 : Ext w0 w) :
  Calls Tryz.prog 153 #[.slice p n c] w fun e w' => (∃ q d, e = .returned (.slice q n d) ∧ ExsO w.heap.size w' (.slice q n d) es) ∧ Ext w w' := by
 obtain ⟨i0, hi, hz0, hz1, hz2⟩ := info_parts infoExpr
 have HC := hid hc; have HK := hid hk; have HI := hid IH; have HN := hid hn; have HE0 := hid hE0; have HSM := hid hsm; clear hc hk IH hn hE0 hsm
 go_enter Tryz.func153, Tryz.ntmps153
 go_wp2_with (at_make; refine wpList_make_full _ rfl _ _ 99 rfl w.heap.size 101 i0 (.agg #[.int .i64 0, .int .i64 0, .slice none 0 0, .int .i64 0, .string ⟨#[]⟩, .slice none 0 0, .slice none 0 0]) 7 Tryz.underlying99 hi hz0 hz1 _ _ _ _ n rfl rfl rfl rfl ?b2 ?b3 (Nat.le_refl _) ?_)
 case b2 => rw [hz2]; omega
 case b3 => unfold maxLen; omega
 intro w1 hown0 hgrow0
 have HP := hid (show RowE w.heap.size (w.heap.size + 1) w.heap.size n es 0 w1 from ⟨_, fun _ => [], hown0, fun i x hi => absurd hi (by omega)⟩)
 have HG := hid ((Ext.refl w).grown hgrow0 (fun k h => by cases h))
 clear hown0 hgrow0 hi hz0 hz1 hz2
 go_wp2
 go_loopw [4] (fun i wr => ∃ k : Nat, k ≤ n ∧ i = .int .i64 k ∧ RowE w.heap.size (w.heap.size + 1) w.heap.size n es k wr ∧ Ext w wr) (fun i _ => n - (intOf i).toNat)
 case atStart => exact ⟨0, by omega, rfl, HP.out, HG.out⟩
 case round =>
  obtain ⟨k, hk, rfl, hrow, hE⟩ := hrel
  by_cases hlt : k < n
  ·obtain ⟨x, hx⟩ := get_some (xs := es) (k := k) (by rw [HN.out]; exact hlt)
   have E0 : Ext w0 wr := HE0.out.trans hE
   obtain ⟨b, off, rfl, hb, hcell⟩ := HC.out k x hx
   have hi := HI.out k x hx (HSM.out x (List.mem_of_getElem? hx)) wr E0
   obtain ⟨u, s, v, hcs, -, -, -, -⟩ := (HK.out k x hx).parts
   rw [hcs] at hcell hi
   have c0 := E0.keep (hcell 0 _ rfl); have c1 := E0.keep (hcell 1 _ rfl); have c2 := E0.keep (hcell 2 _ rfl); have c3 := E0.keep (hcell 3 _ rfl); have c4 := E0.keep (hcell 4 _ rfl); have c5 := E0.keep (hcell 5 _ rfl); have c6 := E0.keep (hcell 6 _ rfl)
   rw [Nat.add_zero] at c0
   have HX := hid hx; have HI2 := hid hi; have HW := hid hrow
   clear hx hi hcell E0 hcs hrow
   go_wp2_with (fail)
   refine HI2.out.mono ?_
   rintro e w2 ⟨⟨cs2, rfl, hv⟩, hE1⟩
   obtain ⟨kind', num', q1, n1, d1', k', arr', q2, n2, d2', q3, n3, d3', rfl⟩ := hv.seven
   obtain ⟨hf, hce, hg0, hg1⟩ := HW.out.open' hE1 hlt
   have f0 := hf 0; have f1 := hf 1; have f2 := hf 2; have f3 := hf 3; have f4 := hf 4; have f5 := hf 5; have f6 := hf 6
   obtain ⟨v0, d0⟩ := hce 0 (by omega); obtain ⟨v1, d1⟩ := hce 1 (by omega); obtain ⟨v2, d2⟩ := hce 2 (by omega); obtain ⟨v3, d3⟩ := hce 3 (by omega); obtain ⟨v4, d4⟩ := hce 4 (by omega); obtain ⟨v5, d5⟩ := hce 5 (by omega); obtain ⟨v6, d6⟩ := hce 6 (by omega)
   rw [Nat.add_zero] at f0 d0
   have HV := hid (hv.weak (B' := w.heap.size + 1) (by have := (HW.out.open' (Ext.refl wr) hlt).2.2.2; omega))
   have HE1 := hid hE1
   have HST := hid (HW.out.step HE1.out hlt HX.out HV.out)
   have HEX := hid (put7_ext (m := k * 7) (a0 := .int .i64 kind') (a1 := .int .i64 num') (a2 := .slice q1 n1 d1') (a3 := .int .i64 k') (a4 := .string arr') (a5 := .slice q2 n2 d2') (a6 := .slice q3 n3 d3') (hE.trans HE1.out) (Nat.le_refl w.heap.size))
   unfold put7 at HST HEX
   clear hv hE1 c0 c1 c2 c3 c4 c5 c6 hf hce
   go_wp2
   go_roundw
   case rel => exact ⟨k + 1, by omega, by go_num, HST.out, HEX.out⟩
   case measure => simp [intOf]; omega
  ·have e : k = n := by omega
   subst e
   have HW := hid hrow; clear hrow
   go_wp2
   go_ret
   exact ⟨⟨_, _, rfl, HW.out.done HN.out (Nat.le_refl _)⟩, hE⟩
theorem blk7f {W : World} {g : Nat} {a0 a1 a2 a3 a4 a5 a6 : Value} {t : TypeId} (h : W.heap[g]? = some (.cells #[a0, a1, a2, a3, a4, a5, a6] t (0, 0))) (j : Nat) : W.frozen? ⟨g, j, none⟩ = false := by
 simp [World.frozen?, h]
theorem blk7_23 {W : World} {g : Nat} {a0 a1 a2 a3 a4 a5 a6 u v : Value} {t : TypeId} (h : W.heap[g]? = some (.cells #[a0, a1, a2, a3, a4, a5, a6] t (0, 0))) : ((W.setCell ⟨g, 2, none⟩ u).setCell ⟨g, 3, none⟩ v).heap[g]? = some (.cells #[a0, a1, u, v, a4, a5, a6] t (0, 0)) := by
 have h1 := heap_setCell_same W g 2 _ t u h
 have h2 := heap_setCell_same _ g 3 _ t v h1
 simpa using h2
theorem blk7_45 {W : World} {g : Nat} {a0 a1 a2 a3 a4 a5 a6 u v : Value} {t : TypeId} (h : W.heap[g]? = some (.cells #[a0, a1, a2, a3, a4, a5, a6] t (0, 0))) : ((W.setCell ⟨g, 4, none⟩ u).setCell ⟨g, 5, none⟩ v).heap[g]? = some (.cells #[a0, a1, a2, a3, u, v, a6] t (0, 0)) := by
 have h1 := heap_setCell_same W g 4 _ t u h
 have h2 := heap_setCell_same _ g 5 _ t v h1
 simpa using h2
theorem toExpr_any {w : World} {cs : List Value} {e : Ex} (h : ExR w cs e) : CpE w cs e := by
 induction h with
 | mk kind num k u s xs arr subs p cap kids us hu ha hs hl hc hk ih =>
  intro hsm w' hE
  cases hsm with
  | mk _ _ _ _ _ _ hx1 ha1 hs1 hl1 hk1 =>
  obtain ⟨pu, cu, rfl, hmu, -⟩ := id hu
  obtain ⟨ps, cs, rfl, hms⟩ := hs.form
  have HU := hid hu; have HS := hid hs; have HC := hid hc; have HK := hid hk; have HI := hid ih; have HE := hid hE; have HS1 := hid hs1; have HK1 := hid hk1
  clear hs hc hk ih hu hE hs1 hk1
  generalize hga : w'.heap.size = ga at *
  have HGA := hid hga; clear hga
  go_enter Tryz.func133, Tryz.ntmps133
  go_wp2_with (fail)
  refine (toAffine_any _ xs k _ (HU.out.ext (HE.out.trans ((((Ext.refl w').alloc _).alloc _).alloc _))) hx1).mono ?_
  rintro e W1 ⟨q1, d1, rfl, hv1, hE1⟩
  have E1 : Hid (Ext w' W1) := hid (((((Ext.refl w').alloc _).alloc _).alloc _).trans hE1)
  have BA := hE1.blk (g := ga) (blk_old (blk_old (blk_at HGA.out.symm)))
  have BR := hE1.blk (g := ga + 1) (blk_old (blk_at (by simp [HGA.out])))
  have BO := hE1.blk (g := ga + 1 + 1) (blk_at (by simp [HGA.out]))
  have hl0 := lt_of_block BO
  have HV1 := hid (hv1.weak (B' := ga + 1 + 1 + 1) (by simp [HGA.out]))
  clear hE1 hv1
  obtain ⟨-, -, o2, o3, -, -, -⟩ := blk7 BO
  have f2 := blk7f BO 2; have f3 := blk7f BO 3
  obtain ⟨-, -, -, -, a4, a5, -⟩ := blk7 (blk_off (g' := ga + 1 + 1) (o' := 3) (blk_off (g' := ga + 1 + 1) (o' := 2) BA (by omega) (.slice q1 xs.length d1)) (by omega) (.int .i64 k))
  have BA2 := hid (blk_off (g' := ga + 1 + 1) (o' := 3) (blk_off (g' := ga + 1 + 1) (o' := 2) BA (by omega) (.slice q1 xs.length d1)) (by omega) (.int .i64 k))
  have BR2 := hid (blk_off (g' := ga + 1 + 1) (o' := 3) (blk_off (g' := ga + 1 + 1) (o' := 2) BR (by omega) (.slice q1 xs.length d1)) (by omega) (.int .i64 k))
  have BO2 := hid (blk7_23 (u := .slice q1 xs.length d1) (v := .int .i64 k) BO)
  have E2 : Hid (Ext w' ((W1.setCell ⟨ga + 1 + 1, 2, none⟩ (.slice q1 xs.length d1)).setCell ⟨ga + 1 + 1, 3, none⟩ (.int .i64 k))) := hid ((E1.out.setCell (by rw [HGA.out]; simp; omega) _).setCell (by rw [HGA.out]; simp; omega) _)
  have HV2 := hid ((HV1.out.setOld (p := ⟨ga + 1 + 1, 2, none⟩) (by simp) (.slice q1 xs.length d1)).setOld (p := ⟨ga + 1 + 1, 3, none⟩) (by simp) (.int .i64 k))
  clear BA BR BO HV1
  rw [HGA.out]
  go_wp2_with (fail)
  clear o2 o3 f2 f3 a4 a5 hl0 E1
  generalize (W1.setCell ⟨ga + 1 + 1, 2, none⟩ (.slice q1 xs.length d1)).setCell ⟨ga + 1 + 1, 3, none⟩ (.int .i64 k) = W2 at *
  refine (toAccess_any arr _ subs W2 (HS.out.ext (HE.out.trans E2.out)) HS1.out).mono ?_
  rintro e W3 ⟨q2, d2, rfl, hv2, hE3⟩
  have E3 : Hid (Ext w' W3) := hid (E2.out.trans hE3)
  have BA := hE3.blk BA2.out; have BR := hE3.blk BR2.out; have BO := hE3.blk BO2.out
  have hl0 := lt_of_block BO
  have HV3 := hid (HV2.out.ext hE3)
  have HA3 := hid (hv2.weak (B' := ga + 1 + 1 + 1) (by have := lt_of_block BO2.out; omega))
  clear hE3 hv2 HV2 BA2 BR2 BO2
  obtain ⟨-, -, -, -, o4, o5, -⟩ := blk7 BO
  have f4 := blk7f BO 4; have f5 := blk7f BO 5
  obtain ⟨-, -, -, -, -, -, a6⟩ := blk7 (blk_off (g' := ga + 1 + 1) (o' := 5) (blk_off (g' := ga + 1 + 1) (o' := 4) BA (by omega) (.string arr)) (by omega) (.slice q2 subs.length d2))
  have BR4 := hid (blk_off (g' := ga + 1 + 1) (o' := 5) (blk_off (g' := ga + 1 + 1) (o' := 4) BR (by omega) (.string arr)) (by omega) (.slice q2 subs.length d2))
  have BO4 := hid (blk7_45 (u := .string arr) (v := .slice q2 subs.length d2) BO)
  have E4 : Hid (Ext w' ((W3.setCell ⟨ga + 1 + 1, 4, none⟩ (.string arr)).setCell ⟨ga + 1 + 1, 5, none⟩ (.slice q2 subs.length d2))) := hid ((E3.out.setCell (by rw [HGA.out]; simp; omega) _).setCell (by rw [HGA.out]; simp; omega) _)
  have HV4 := hid ((HV3.out.setOld (p := ⟨ga + 1 + 1, 4, none⟩) (by simp) (.string arr)).setOld (p := ⟨ga + 1 + 1, 5, none⟩) (by simp) (.slice q2 subs.length d2))
  have HA4 := hid ((HA3.out.setOld (p := ⟨ga + 1 + 1, 4, none⟩) (by simp) (.string arr)).setOld (p := ⟨ga + 1 + 1, 5, none⟩) (by simp) (.slice q2 subs.length d2))
  clear BA BR BO HV3 HA3
  go_wp2_with (fail)
  clear o4 o5 f4 f5 a6 hl0 E3
  generalize (W3.setCell ⟨ga + 1 + 1, 4, none⟩ (.string arr)).setCell ⟨ga + 1 + 1, 5, none⟩ (.slice q2 subs.length d2) = W4 at *
  refine (toExprS_of w p _ cap kids us rfl hl1 HC.out HK.out HI.out HK1.out W4 (HE.out.trans E4.out)).mono ?_
  rintro e W5 ⟨⟨q3, d3, rfl, hv3⟩, hE5⟩
  have E5 : Hid (Ext w' W5) := hid (E4.out.trans hE5)
  have BR := hE5.blk BR4.out; have BO := hE5.blk BO4.out
  have hl0 := lt_of_block BO
  have HV5 := hid (HV4.out.ext hE5); have HA5 := hid (HA4.out.ext hE5)
  have hw4 := lt_of_block BO4.out
  have HK5 : Hid (ExsO (ga + 1 + 1 + 1) W5 (.slice q3 kids.length d3) kids) := hid (by
   obtain ⟨p', c', us', vs', e1, e2, e3, e4⟩ := hv3
   exact ⟨p', c', us', vs', e1, ownsRow_weak e2 (by omega), e3, fun i e hi => (e4 i e hi).weak (by omega)⟩)
  clear hE5 hv3 HV4 HA4 BR4 BO4
  obtain ⟨o0, o1, o2, o3, o4, o5, o6⟩ := blk7 BO
  have f6 := blk7f BO 6
  obtain ⟨r0, r1, r2, r3, r4, r5, r6⟩ := blk7 BR
  have g0 := blk7f BR 0; have g1 := blk7f BR 1; have g2 := blk7f BR 2; have g3 := blk7f BR 3; have g4 := blk7f BR 4; have g5 := blk7f BR 5; have g6 := blk7f BR 6
  have HEX := hid (ExO.of (kind := kind) (num := num) (k := k) HV5.out ha HA5.out HK5.out)
  clear BR BO HV5 HA5 HK5
  go_wp2
  refine bodyPost_ret (v := .agg #[.int .i64 kind, .int .i64 num, .slice q1 xs.length d1, .int .i64 k, .string arr, .slice q2 subs.length d2, .slice q3 kids.length d3]) (by simp [results, Tryz.results133, go_sem, r0, r1, r2, r3, r4, r5, r6]) rfl ⟨⟨_, rfl, ?_⟩, ?_⟩
  ·refine ExO.weak (B := ga + 1 + 1 + 1) ?_ (by omega)
   repeat (refine ExO.setOld ?_ (by simp <;> omega) _)
   exact HEX.out
  ·repeat (refine Ext.setCell ?_ (by rw [HGA.out]; simp <;> omega) _)
   exact E5.out
end Go.Proofs.YtggpjapmhakklaaGreat
namespace Go.Proofs.YtggpjapmhakklaaGreat
open Go.Lib (hid)
open Go.RowKit
theorem tkD9 {P : Program} {md : Region.Mode} {ops : Array Oper} {Q : Exit → Act → World → Prop} {S : World → Prop} {oi : Oper} {fuel : Nat} {listed : Array Bool} {a : Act} {w : World} (d : Option Nat) (i : Nat) (v : Value) (hi : ops[i]? = some oi) (hd : oi.dst = d)
 (hc : (Region.noSelect ops && (Region.free md ops listed i && (Region.ready md ops listed).contains i)) = true)
 (hQ : ∀ c a w, Q (.panic c) (a.put d v) w → Q (.panic c) a w) (hy : YieldsIf P ops S oi v a) (hS : S w)
 (h : wpAnyH P md ops Q S fuel (listed.setIfInBounds i true) (a.put d v) w) : wpAnyH P md ops Q S (fuel + 1) listed a w := by
 subst hd
 simp only [Bool.and_eq_true] at hc
 exact wpAnyH_take hi hc.1 hc.2.1 hc.2.2 hQ hy hS h
theorem wpAnyH_takeD {P : Program} {md : Region.Mode} {ops : Array Oper} {Q : Exit → Act → World → Prop} {S : World → Prop} {i : Nat} {oi : Oper} {v : Value} {fuel : Nat} {listed : Array Bool} {a : Act} {w : World} (d : Option Nat) (hi : ops[i]? = some oi) (hd : oi.dst = d)
  (hs : Region.noSelect ops = true) (hf : Region.free md ops listed i = true) (hr : (Region.ready md ops listed).contains i = true)
  (hQ : ∀ c a w, Q (.panic c) (a.put d v) w → Q (.panic c) a w) (hy : YieldsIf P ops S oi v a) (hS : S w)
  (h : wpAnyH P md ops Q S fuel (listed.setIfInBounds i true) (a.put d v) w) : wpAnyH P md ops Q S (fuel + 1) listed a w := by
 subst hd
 exact wpAnyH_take hi hs hf hr hQ hy hS h
end Go.Proofs.YtggpjapmhakklaaGreat
namespace Go.Proofs.YtggpjapmhakklaaGreat
open Go.Lib (hid)
open Go.RowKit
def Dr (w0 : World) (g : Nat) (w : World) : Prop := w0.grownBy w (some g)
theorem Dr.refl (w : World) (g : Nat) : Dr w g w := World.grownBy.refl _ _
theorem Dr.trans {a b c : World} {g : Nat} (h : Dr a g b) (k : Dr b g c) : Dr a g c := grownBy_trans h k
theorem Dr.ext {a b c : World} {g : Nat} (h : Dr a g b) (k : Ext b c) : Dr a g c := grownBy_trans h (k.grownBy _)
theorem Dr.alloc {a b : World} {g : Nat} (h : Dr a g b) (o : Obj) : Dr a g (b.alloc o) := h.ext ((Ext.refl b).alloc o)
theorem Dr.drew {a b : World} {g : Nat} (h : Dr a g b) : Dr a g b.drew := h.ext (Ext.refl b).drew
theorem Dr.fresh {a b c : World} {g : Nat} {row : Option Nat} (h : Dr a g b) (k : b.grownBy c row) (hr : ∀ j, row = some j → a.heap.size ≤ j) : Dr a g c :=
 ⟨k.os.trans h.os, k.tape.trans h.tape, k.output.trans h.output, Nat.le_trans h.size k.size, fun i hi hne => (k.block i (Nat.lt_of_lt_of_le hi h.size) (fun e => by have := hr i e.symm; omega)).trans (h.block i hi hne)⟩
theorem Dr.set {a b : World} {g : Nat} (h : Dr a g b) {j o : Nat} (hj : a.heap.size ≤ j) (u : Value) : Dr a g (b.setCell ⟨j, o, none⟩ u) := h.fresh (grown_set b j o u) (fun k e => by have := Option.some.inj e; omega)
theorem Dr.ext0 {W a b : World} {g : Nat} (h : Dr a g b) (hE : Ext W a) (hg : W.heap.size ≤ g) : Ext W b := hE.grownRd h hg
theorem own_form' {B size n : Nat} {e : TypeId} {w : World} {v : Value} {xs : List Value} (h : w.ownsRow B e size v n xs) (hv : v ≠ .slice none 0 0) : ∃ b c, v = .slice (some ⟨b, 0, none⟩) n c ∧ n ≤ c := by
 rcases h.2 with ⟨rfl, rfl⟩ | ⟨g, cap, cur, rfl, _, _, h1, _⟩
 ·exact absurd rfl hv
 ·exact ⟨_, _, rfl, h1⟩
end Go.Proofs.YtggpjapmhakklaaGreat
namespace Go.Proofs.YtggpjapmhakklaaGreat
open Go.Lib (hid)
open Go.RowKit
theorem own4 {B c : Nat} {w : World} {p : Option Addr} {xs : List Value} (h : w.ownsRow B 3 1 (.slice p 4 c) 4 xs) : ∃ b, p = some ⟨b, 0, none⟩ ∧ B ≤ b ∧ b < w.heap.size := by
 obtain ⟨b, c', e, _⟩ := own_form' h (by intro e; have := congrArg (fun v => match v with | .slice _ n _ => n | _ => 0) e; simp at this)
 cases e
 exact ⟨b, rfl, h.lt b rfl⟩
end Go.Proofs.YtggpjapmhakklaaGreat
namespace Go.Proofs.YtggpjapmhakklaaGreat
open Go.Lib (hid)
open Go.RowKit
end Go.Proofs.YtggpjapmhakklaaGreat
namespace Go.Proofs.YtggpjapmhakklaaGreat
open Go.Lib (hid)
open Go.RowKit
def Tag (w : World) (row : Option Nat) (T : TypeId) : Prop := ∀ g, row = some g → ∃ cs fz, w.heap[g]? = some (.cells cs T fz)
theorem Tag.none (w : World) (T : TypeId) : Tag w none T := fun _ h => by cases h
theorem Tag.blk {w : World} {g : Nat} {cs : Array Value} {T : TypeId} {fz : Nat × Nat} (h : w.heap[g]? = some (.cells cs T fz)) : Tag w (some g) T := fun _ e => by cases e; exact ⟨_, _, h⟩
theorem own_tag {B size n : Nat} {e : TypeId} {w : World} {v : Value} {xs : List Value} (h : w.ownsRow B e size v n xs) : Tag w v.ownBlock e := by
 intro g hg
 rcases h.2 with ⟨rfl, _⟩ | ⟨g', cap, cur, rfl, _, hgh, _⟩
 ·simp [Value.ownBlock] at hg
 ·have : g' = g := Option.some.inj hg
  subst this
  exact ⟨_, _, hgh⟩
theorem row_tag {B size n : Nat} {e T : TypeId} {w w' : World} {v : Value} {xs : List Value} {row : Option Nat} (h : w.ownsRow B e size v n xs) (hg : w.grownBy w' row) (ht : Tag w row T) (hT : T ≠ e) : w'.ownsRow B e size v n xs := by
 refine ⟨h.1, ?_⟩
 rcases h.2 with hn | ⟨g, cap, cur, hv, hbg, hgh, r⟩
 ·exact .inl hn
 ·refine .inr ⟨g, cap, cur, hv, hbg, ?_, r⟩
  refine grownBy_blk hg hgh (fun e' => ?_)
  obtain ⟨cs, fz, h2⟩ := ht g e'.symm
  rw [hgh] at h2
  cases h2
  exact hT rfl
theorem blk_tag {T T' : TypeId} {w w' : World} {row : Option Nat} {g : Nat} {cs : Array Value} {fz : Nat × Nat} (h : w.heap[g]? = some (.cells cs T' fz)) (hg : w.grownBy w' row) (ht : Tag w row T) (hT : T ≠ T') : w'.heap[g]? = some (.cells cs T' fz) :=
 grownBy_blk hg h (fun e' => by
  obtain ⟨cs', fz', h2⟩ := ht g e'.symm
  rw [h] at h2
  cases h2
  exact hT rfl)
theorem IntsOwn.tag {B : Nat} {T : TypeId} {w w' : World} {v : Value} {xs : List Int} {row : Option Nat} (h : IntsOwn B w v xs) (hg : w.grownBy w' row) (ht : Tag w row T) (hT : T ≠ 3) : IntsOwn B w' v xs := row_tag h hg ht hT
theorem AffsOwn.tag {B : Nat} {T : TypeId} {w w' : World} {v : Value} {xs : List Aff} {row : Option Nat} (h : AffsOwn B w v xs) (hg : w.grownBy w' row) (ht : Tag w row T) (hT : T ≠ 3) (hT2 : T ≠ 98) : AffsOwn B w' v xs :=
 PairsOwn.map' h (fun _ h => row_tag h hg ht hT2) (fun h => ⟨h.1.tag hg ht hT, h.2⟩)
theorem LoopsOwn.tag {B : Nat} {T : TypeId} {w w' : World} {v : Value} {xs : List Lp} {row : Option Nat} (h : LoopsOwn B w v xs) (hg : w.grownBy w' row) (ht : Tag w row T) (hT : T ≠ 3) (hT2 : T ≠ 98) (hT3 : T ≠ 182) : LoopsOwn B w' v xs :=
 PairsOwn.map' h (fun _ h => row_tag h hg ht hT3) (fun h => ⟨AffsOwn.tag h.1 hg ht hT hT2, AffsOwn.tag h.2 hg ht hT hT2⟩)
theorem PairsOwn.push {α : Type} {T : TypeId} {R : Nat → World → Value → Value → α → Prop} (hR : ∀ {B w w' u0 u1 x row}, R B w u0 u1 x → w.grownBy w' row → Tag w row T → R B w' u0 u1 x)
  {B n : Nat} {w w' : World} {v v' u0 u1 : Value} {xs : List α} {x : α} {vs : List Value} (hn : xs.length = n)
  (he : ∀ i y, xs[i]? = some y → ∃ t0 t1, vs[i * 2]? = some t0 ∧ vs[i * 2 + 1]? = some t1 ∧ R B w t0 t1 y) (hvl : vs.length = n * 2)
  (ho' : w'.ownsRow B T 2 v' (n + 1) (vs ++ [u0, u1])) (hg : w.grownBy w' v.ownBlock) (ht : Tag w v.ownBlock T) (hx : R B w u0 u1 x) : PairsOwn T R B w' v' (xs ++ [x]) := by
 refine ⟨vs ++ [u0, u1], by rw [List.length_append, hn]; exact ho', fun i y hi => ?_⟩
 rcases Nat.lt_or_ge i xs.length with hlt | hge
 ·rw [List.getElem?_append_left hlt] at hi
  obtain ⟨t0, t1, h0, h1, h2⟩ := he i y hi
  exact ⟨t0, t1, by rw [List.getElem?_append_left (by omega)]; exact h0, by rw [List.getElem?_append_left (by omega)]; exact h1, hR h2 hg ht⟩
 ·rw [List.getElem?_append_right hge] at hi
  have hi0 : i - xs.length = 0 := by
   rcases Nat.eq_zero_or_pos (i - xs.length) with h | h
   ·exact h
   ·rw [List.getElem?_eq_none (by simp; omega)] at hi; cases hi
  rw [hi0] at hi
  simp at hi
  subst hi
  have hin : i = n := by omega
  subst hin
  exact ⟨u0, u1, by rw [List.getElem?_append_right (by omega)]; simp [hvl], by rw [List.getElem?_append_right (by omega), hvl]; simp [show i * 2 + 1 - i * 2 = 1 by omega], hR hx hg ht⟩
theorem AffO.grow {B : Nat} {w w' : World} {u0 u1 : Value} {x : Aff} {row : Option Nat} (h : AffO B w u0 u1 x) (hg : w.grownBy w' row) (ht : Tag w row 98) : AffO B w' u0 u1 x := ⟨h.1.tag hg ht (by decide), h.2⟩
theorem LoopO.grow {B : Nat} {w w' : World} {u0 u1 : Value} {x : Lp} {row : Option Nat} (h : LoopO B w u0 u1 x) (hg : w.grownBy w' row) (ht : Tag w row 182) : LoopO B w' u0 u1 x := ⟨AffsOwn.tag h.1 hg ht (by decide) (by decide), AffsOwn.tag h.2 hg ht (by decide) (by decide)⟩
theorem underSliceAff : Tryz.prog.underlying 94 = some (.slice 98) := Tryz.underlying94
theorem pair_cells {L : Nat} {w : World} {u0 u1 : Value} {t : TypeId} (hL : L = w.heap.size) : ∀ j u, [u0, u1][j]? = some u → (w.alloc (.cells #[u0, u1] t)).cell? ((⟨L, 0, none⟩ : Addr).add j) = some u := by
 subst hL
 intro q u hq
 match q, hq with
 | 0, hq => simp at hq; subst hq; simp [Addr.add]
 | 1, hq => simp at hq; subst hq; simp [Addr.add, go_sem]
theorem PairsOwn.slice {α : Type} {T : TypeId} {R : Nat → World → Value → Value → α → Prop} {B : Nat} {w : World} {v : Value} {xs : List α} (h : PairsOwn T R B w v xs) : ∃ p c, v = .slice p xs.length c := by
 obtain ⟨vs, ho, -⟩ := h
 rcases ho.2 with ⟨rfl, hn⟩ | ⟨g, cap, cur, rfl, _⟩
 ·exact ⟨none, 0, by rw [hn]⟩
 ·exact ⟨_, _, rfl⟩
theorem AffsOwn.nil (B : Nat) (w : World) : AffsOwn B w (.slice none 0 0) [] := ⟨[], World.ownsRow_nil _ _ _ _, fun i x hi => by simp at hi⟩
theorem LoopsOwn.made {B g c : Nat} {w : World} (h : w.ownsRow B 182 2 (.slice (some ⟨g, 0, none⟩) 0 c) 0 []) : LoopsOwn B w (.slice (some ⟨g, 0, none⟩) 0 c) [] := ⟨[], h, fun i x hi => by simp at hi⟩
def FourA (N : Nat) (zs : List Aff) : Prop := zs.length ≤ N ∧ ∀ a ∈ zs, a.1.length = 4
def FourL (N : Nat) (ls : List Lp) : Prop := ls.length ≤ N ∧ ∀ l ∈ ls, FourA N l.1 ∧ FourA N l.2
theorem FourA.mono {N M : Nat} {zs : List Aff} (h : FourA N zs) (hN : N ≤ M) : FourA M zs := ⟨by have := h.1; omega, h.2⟩
theorem FourL.mono {N M : Nat} {ls : List Lp} (h : FourL N ls) (hN : N ≤ M) : FourL M ls := ⟨by have := h.1; omega, fun l hl => ⟨(h.2 l hl).1.mono hN, (h.2 l hl).2.mono hN⟩⟩
theorem FourA.push {N : Nat} {zs : List Aff} {a : Aff} (h : FourA N zs) (ha : a.1.length = 4) : FourA (N + 1) (zs ++ [a]) :=
 ⟨by have := h.1; simp; omega, fun b hb => by rcases List.mem_append.1 hb with hb | hb; exact h.2 b hb; simp at hb; rw [hb]; exact ha⟩
theorem FourL.push {N : Nat} {ls : List Lp} {l : Lp} (h : FourL N ls) (h1 : FourA (N + 1) l.1) (h2 : FourA (N + 1) l.2) : FourL (N + 1) (ls ++ [l]) :=
 ⟨by have := h.1; simp; omega, fun b hb => by rcases List.mem_append.1 hb with hb | hb; exact (h.mono (by omega)).2 b hb; simp at hb; rw [hb]; exact ⟨h1, h2⟩⟩
end Go.Proofs.YtggpjapmhakklaaGreat
