/- The texts R12 G0, joined. No statement is proved here. -/
import Derived.Test.YtccibfldadflkaaQT17
import Derived.Test.YtccibfldadflkaaQT12
import Derived.Test.YtccibfldadflkaaQT34
import Derived.Test.YtccibfldadflkaaQT47
import Derived.Test.YtccibfldadflkaaQT23
import Derived.Test.YtccibfldadflkaaQT48
import Derived.Deep.SlicePairs
/- The points of a nest: which they are, their order, how many of a box. No statement is proved here. | Contracts for lists of points: equality, marks. No statement is proved here. | The elements of a list of points. No statement is proved here. -/
namespace Go.Proofs.Ytccibfldadflkaa
open Go.RowKit

theorem listLoop_iff {f : Int → List (List Int)} {x : List Int} : ∀ (k : Nat) (v : Int), x ∈ listLoop f k v ↔ ∃ j : Nat, j < k ∧ x ∈ f (v + j)
  | 0, v => by simp [listLoop]
  | k + 1, v => by
    simp only [listLoop, List.mem_append]
    rw [listLoop_iff k (v + 1)]
    constructor
    · rintro (h | ⟨j, hj, h⟩)
      · exact ⟨0, by omega, by simpa using h⟩
      · exact ⟨j + 1, by omega, by rw [show v + ((j + 1 : Nat) : Int) = v + 1 + j by omega]; exact h⟩
    · rintro ⟨j, hj, h⟩
      rcases Nat.eq_zero_or_pos j with rfl | hp
      · exact .inl (by simpa using h)
      · exact .inr ⟨j - 1, by omega, by rw [show v + 1 + ((j - 1 : Nat) : Int) = v + j by omega]; exact h⟩
theorem lpAt_getD (ls : List Lp) (ps : List Int) : lpAt ls ps = ls.getD ps.length ([], []) := rfl
theorem take_snoc {x ps : List Int} {v : Int} (h : x.take (ps.length + 1) = ps ++ [v]) : x.take ps.length = ps ∧ x[ps.length]? = some v := by
  constructor
  · have := congrArg (List.take ps.length) h
    rwa [List.take_take, Nat.min_eq_left (by omega), List.take_append_of_le_length (Nat.le_refl _), List.take_length] at this
  · have := congrArg (fun l : List Int => l[ps.length]?) h
    simp only [List.getElem?_take] at this
    rw [if_pos (by omega), List.getElem?_append_right (Nat.le_refl _)] at this
    simpa using this
/-- The points that begin with ps are those that continue ps within the ranges of the loops. -/
theorem leaves_iff (ls : List Lp) (x : List Int) : ∀ (d : Nat) (ps : List Int), ps.length + d = ls.length → (x ∈ leaves ls d ps ↔ x.length = ls.length ∧ x.take ps.length = ps ∧ ∀ i, ps.length ≤ i → i < ls.length → inB ls x i = true)
  | 0, ps, hd => by
    simp only [leaves, List.mem_singleton]
    constructor
    · rintro rfl
      exact ⟨by omega, by simp, fun i h1 h2 => by omega⟩
    · rintro ⟨h1, h2, -⟩
      rw [← h2, List.take_of_length_le (by omega)]
  | d + 1, ps, hd => by
    simp only [leaves]
    rw [listLoop_iff]
    constructor
    · rintro ⟨j, hj, h⟩
      obtain ⟨h1, h2, h3⟩ := (leaves_iff ls x d (ps ++ [loV (lpAt ls ps) ps + j]) (by rw [List.length_append]; simp; omega)).1 h
      rw [List.length_append, List.length_singleton] at h2 h3
      obtain ⟨h4, h5⟩ := take_snoc h2
      refine ⟨h1, h4, fun i hi hl => ?_⟩
      rcases Nat.eq_or_lt_of_le hi with rfl | hi
      · unfold inB
        rw [h4, List.getD_eq_getElem?_getD (l := x), h5, ← lpAt_getD]
        unfold trips at hj
        simp only [Option.getD_some, decide_eq_true_eq]
        omega
      · exact h3 i hi hl
    · rintro ⟨h1, h2, h3⟩
      have h4 := h3 ps.length (Nat.le_refl _) (by omega)
      obtain ⟨v, hv⟩ := get_some (xs := x) (k := ps.length) (by omega)
      unfold inB at h4
      rw [h2, List.getD_eq_getElem?_getD (l := x), hv, ← lpAt_getD] at h4
      simp only [Option.getD_some, decide_eq_true_eq] at h4
      have hve : loV (lpAt ls ps) ps + ((v - loV (lpAt ls ps) ps).toNat : Int) = v := by omega
      refine ⟨(v - loV (lpAt ls ps) ps).toNat, by unfold trips; omega, ?_⟩
      rw [hve]
      refine (leaves_iff ls x d (ps ++ [v]) (by rw [List.length_append]; simp; omega)).2 ⟨h1, ?_, fun i hi hl => h3 i (by rw [List.length_append] at hi; omega) hl⟩
      rw [List.length_append, List.length_singleton, take_next hv, h2]
/-- What NestPoints lists are the points that PointIn accepts, as long as they are points. -/
theorem nptsL_iff {ls : List Lp} (h : nptsB ls = true) (x : List Int) : x ∈ nptsL ls ↔ x.length = ls.length ∧ ∀ i, i < ls.length → inB ls x i = true := by
  rw [nptsL_leaves h, leaves_iff ls x ls.length [] (by simp)]
  simp
theorem nptsB_nest {ls : List Lp} (h : nptsB ls = true) : nestB ls = true := by
  simp only [nptsB, Bool.and_eq_true] at h; exact h.1
theorem nptsL_len {ls : List Lp} : (nptsL ls).length ≤ 120 := by
  unfold nptsL
  split
  · rename_i h
    simp only [nptsB, Bool.and_eq_true, decide_eq_true_eq] at h
    exact h.2.2
  · simp
end Go.Proofs.Ytccibfldadflkaa

namespace Go.Proofs.Ytccibfldadflkaa
open Go.RowKit

/-- The value reads as a list of lists of ints. -/
def PtsAt (w : World) (v : Value) (xss : List (List Int)) : Prop :=
  xss.length ≤ 1000000 ∧ ((v = .slice none 0 0 ∧ xss = []) ∨ ∃ g c, v = .slice (some ⟨g, 0, none⟩) xss.length c ∧ g < w.heap.size ∧ ∀ (i : Nat) (xs : List Int), xss[i]? = some xs → ∃ u, w.cell? ⟨g, i, none⟩ = some u ∧ IntsAt w u xs)
theorem PtsAt.ext {w w' : World} {v : Value} {xss : List (List Int)} (h : PtsAt w v xss) (hE : Ext w w') : PtsAt w' v xss := by
  refine ⟨h.1, h.2.imp id ?_⟩
  rintro ⟨g, c, hv, hg, he⟩
  refine ⟨g, c, hv, Nat.lt_of_lt_of_le hg hE.size_le, fun i xs hi => ?_⟩
  obtain ⟨u, h0, h1⟩ := he i xs hi
  exact ⟨u, hE.keep h0, h1.ext hE⟩
theorem PtsAt.form {w : World} {v : Value} {xss : List (List Int)} (h : PtsAt w v xss) : ∃ p c, v = .slice p xss.length c := by
  rcases h.2 with ⟨rfl, rfl⟩ | ⟨g, c, rfl, _⟩
  · exact ⟨none, 0, rfl⟩
  · exact ⟨_, _, rfl⟩
theorem PtsAt.elem {w : World} {p : Option Addr} {n c i : Nat} {xss : List (List Int)} {xs : List Int} (h : PtsAt w (.slice p n c) xss) (hi : xss[i]? = some xs) : ∃ g u, p = some ⟨g, 0, none⟩ ∧ w.cell? ⟨g, i, none⟩ = some u ∧ g < w.heap.size ∧ IntsAt w u xs := by
  rcases h.2 with ⟨_, rfl⟩ | ⟨g, c', hv, hg, he⟩
  · simp at hi
  · obtain ⟨u, h0, h1⟩ := he i xs hi
    simp only [Value.slice.injEq] at hv
    exact ⟨g, u, hv.1, h0, hg, h1⟩
theorem pts_at {B : Nat} {w : World} {v : Value} {xss : List (List Int)} {vs : List Value} (h0 : xss.length ≤ 1000000) (ho : w.ownsRow B 22 1 v xss.length vs) (he : ∀ (i : Nat) (xs : List Int), xss[i]? = some xs → ∃ u : Value, vs[i]? = some u ∧ IntsAt w u xs) : PtsAt w v xss := by
  refine ⟨h0, ?_⟩
  rcases ho.2 with ⟨hv, hn⟩ | ⟨g, cap, cur, hv, hb, hgh, r⟩
  · exact .inl ⟨hv, List.eq_nil_of_length_eq_zero hn⟩
  · refine .inr ⟨g, cap, hv, (Array.getElem?_eq_some_iff.1 hgh).1, fun i xs hi => ?_⟩
    obtain ⟨u, h1, h2⟩ := he i xs hi
    refine ⟨u, ?_, h2⟩
    subst hv
    rw [ho.cellAt i (by have := (List.getElem?_eq_some_iff.1 hi).1; omega)]
    exact h1
theorem PtsOwn.at {B : Nat} {w : World} {v : Value} {xss : List (List Int)} (h : PtsOwn B w v xss) (h0 : xss.length ≤ 1000000) : PtsAt w v xss := by
  obtain ⟨vs, ho, he⟩ := h
  exact pts_at h0 ho (fun i xs hi => by obtain ⟨u, h1, h2⟩ := he i xs hi; exact ⟨u, h1, h2.at⟩)
theorem PtsD.at {own : List Nat} {B : Nat} {w : World} {v : Value} {xss : List (List Int)} (h : PtsD own B w v xss) (h0 : xss.length ≤ 1000000) : PtsAt w v xss := by
  obtain ⟨vs, ho, _, he⟩ := h
  exact pts_at h0 ho (fun i xs hi => by obtain ⟨g, c, h1, h2, _⟩ := he i xs hi; exact ⟨_, h1, h2.at⟩)

end Go.Proofs.Ytccibfldadflkaa

namespace Go.Proofs.Ytccibfldadflkaa
open Go.RowKit

theorem PtsD.get {own : List Nat} {B n c i : Nat} {X : World} {p : Option Addr} {xss : List (List Int)} {xs : List Int} (h : PtsD own B X (.slice p n c) xss) (hi : xss[i]? = some xs) :
    ∃ o g c', p = some ⟨o, 0, none⟩ ∧ X.cell? ⟨o, i, none⟩ = some (.slice (some ⟨g, 0, none⟩) xs.length c') ∧ IntsAt X (.slice (some ⟨g, 0, none⟩) xs.length c') xs ∧ xs.length ≤ c' := by
  obtain ⟨vs, ho, _, he⟩ := h
  obtain ⟨g, c', h1, h2, _⟩ := he i xs hi
  have hlt := (List.getElem?_eq_some_iff.1 hi).1
  rcases ho.2 with ⟨e, h0⟩ | ⟨o, cap, cur, e, r⟩
  · omega
  · cases e
    exact ⟨o, g, c', rfl, by rw [ho.cellAt i (by omega)]; exact h1, h2.at, h2.cap⟩
end Go.Proofs.Ytccibfldadflkaa

/- Programs in memory: lists of statements, arrays, parts; the argument opened. No statement is proved here. -/
namespace Go.Proofs.Ytccibfldadflkaa
open Go.RowKit Go.ChangeShapes Go.WideShapes Go.ChangeAt Go.Joins

/-- A statement: array and subscripts of the written element, value. -/
abbrev St := ByteArray × List Aff × Ex
/-- The value v reads as a list of statements. -/
def StmtsAt (w : World) (v : Value) (ss : List St) : Prop := ∃ p c, ∃ us : Nat → List Value, v = .slice p ss.length c ∧ ss.length ≤ 9223372036854775807 ∧
  (∀ (i : Nat) (s : St), ss[i]? = some s → ∃ b off, p = some ⟨b, off, none⟩ ∧ b < w.heap.size ∧ ∀ (j : Nat) (v : Value), (us i)[j]? = some v → w.cell? ⟨b, off + i * 9 + j, none⟩ = some v) ∧ ∀ (i : Nat) (s : St), ss[i]? = some s → StR w (.agg (us i).toArray) s.1 s.2.1 s.2.2
theorem StmtsAt.ext {w w' : World} {v : Value} {ss : List St} (h : StmtsAt w v ss) (hE : Ext w w') : StmtsAt w' v ss := by
  obtain ⟨p, c, us, hv, hl, hc, hk⟩ := h
  refine ⟨p, c, us, hv, hl, fun i e hi => ?_, fun i e hi => (hk i e hi).ext hE⟩
  obtain ⟨b, off, h1, h2, h3⟩ := hc i e hi
  exact ⟨b, off, h1, Nat.lt_of_lt_of_le h2 hE.size_le, fun j v hj => hE.keep (h3 j v hj)⟩
theorem StmtsAt.form {w : World} {v : Value} {ss : List St} (h : StmtsAt w v ss) : ∃ p c, v = .slice p ss.length c ∧ ss.length ≤ 9223372036854775807 := by
  obtain ⟨p, c, us, hv, hl, _⟩ := h; exact ⟨p, c, hv, hl⟩
/-- Element i of a list of statements: its nine cells. -/
theorem StmtsAt.elem {w : World} {p : Option Addr} {n c i : Nat} {ss : List St} {s : St} (h : StmtsAt w (.slice p n c) ss) (hi : ss[i]? = some s) :
    ∃ b off q1 d1 q2 d2 q3 d3 q4 d4, p = some ⟨b, off, none⟩ ∧ b < w.heap.size ∧ w.cell? ⟨b, off + i * 9, none⟩ = some (.string s.1) ∧ w.cell? ⟨b, off + i * 9 + 1, none⟩ = some (.slice q1 s.2.1.length d1) ∧
      w.cell? ⟨b, off + i * 9 + 2, none⟩ = some (.int .i64 s.2.2.kind) ∧ w.cell? ⟨b, off + i * 9 + 3, none⟩ = some (.int .i64 s.2.2.num) ∧ w.cell? ⟨b, off + i * 9 + 4, none⟩ = some (.slice q2 s.2.2.ix.1.length d2) ∧ w.cell? ⟨b, off + i * 9 + 5, none⟩ = some (.int .i64 s.2.2.ix.2) ∧
      w.cell? ⟨b, off + i * 9 + 6, none⟩ = some (.string s.2.2.arr) ∧ w.cell? ⟨b, off + i * 9 + 7, none⟩ = some (.slice q3 s.2.2.subs.length d3) ∧ w.cell? ⟨b, off + i * 9 + 8, none⟩ = some (.slice q4 s.2.2.kids.length d4) ∧
      StR w (.agg #[.string s.1, .slice q1 s.2.1.length d1, .int .i64 s.2.2.kind, .int .i64 s.2.2.num, .slice q2 s.2.2.ix.1.length d2, .int .i64 s.2.2.ix.2, .string s.2.2.arr, .slice q3 s.2.2.subs.length d3, .slice q4 s.2.2.kids.length d4]) s.1 s.2.1 s.2.2 := by
  obtain ⟨p', c', us, hv, hl, hc, hk⟩ := h
  simp only [Value.slice.injEq] at hv
  obtain ⟨rfl, -, rfl⟩ := hv
  obtain ⟨b, off, h1, h2, h3⟩ := hc i s hi
  have hst := hk i s hi
  obtain ⟨q1, d1, q2, d2, q3, d3, q4, d4, hcs, -, -, -⟩ := hst.parts
  have hcs' : us i = [.string s.1, .slice q1 s.2.1.length d1, .int .i64 s.2.2.kind, .int .i64 s.2.2.num, .slice q2 s.2.2.ix.1.length d2, .int .i64 s.2.2.ix.2, .string s.2.2.arr, .slice q3 s.2.2.subs.length d3, .slice q4 s.2.2.kids.length d4] := by
    simpa using hcs
  rw [hcs'] at h3 hst
  exact ⟨b, off, q1, d1, q2, d2, q3, d3, q4, d4, h1, h2, h3 0 _ rfl, h3 1 _ rfl, h3 2 _ rfl, h3 3 _ rfl, h3 4 _ rfl, h3 5 _ rfl, h3 6 _ rfl, h3 7 _ rfl, h3 8 _ rfl, hst⟩

/-- An array: name and dimensions. -/
abbrev Arr := ByteArray × List Int
def ArrR (w : World) (u0 u1 : Value) (a : Arr) : Prop := u0 = .string a.1 ∧ a.1.size ≤ 9223372036854775807 ∧ IntsAt w u1 a.2
theorem ArrR.ext {w w' : World} {u0 u1 : Value} {a : Arr} (h : ArrR w u0 u1 a) (hb : Ext w w') : ArrR w' u0 u1 a := ⟨h.1, h.2.1, h.2.2.ext hb⟩
def ArrsAt : World → Value → List Arr → Prop := PairsAt ArrR
theorem ArrsAt.ext {w w' : World} {v : Value} {xs : List Arr} (h : ArrsAt w v xs) (hb : Ext w w') : ArrsAt w' v xs := PairsAt.ext (R := ArrR) (fun h hb => h.ext hb) h hb
theorem ArrsAt.form {w : World} {v : Value} {xs : List Arr} (h : ArrsAt w v xs) : ∃ p c, v = .slice p xs.length c ∧ xs.length ≤ 9223372036854775807 := by
  obtain ⟨p, c, hv, hm, _⟩ := h; exact ⟨p, c, hv, hm⟩
theorem ArrsAt.elem {w : World} {p : Option Addr} {n c : Nat} {xs : List Arr} (h : ArrsAt w (.slice p n c) xs) {i : Nat} {x : Arr} (hi : xs[i]? = some x) :
    ∃ b off q m, p = some ⟨b, off, none⟩ ∧ w.cell? ⟨b, off + i * 2, none⟩ = some (.string x.1) ∧ w.cell? ⟨b, off + i * 2 + 1, none⟩ = some (.slice q x.2.length m) ∧ b < w.heap.size ∧ x.1.size ≤ 9223372036854775807 ∧ IntsAt w (.slice q x.2.length m) x.2 := by
  obtain ⟨p', c', hv, hm, hc⟩ := h
  cases hv
  obtain ⟨b, off, u0, u1, hp, h0, h1, hlt, rfl, hs, hr⟩ := hc i x hi
  obtain ⟨q, m, rfl, _⟩ := id hr
  exact ⟨b, off, q, m, hp, h0, h1, hlt, hs, hr⟩

/-- A part: nest and body. -/
abbrev Pt := List Lp × List St
def PartR (w : World) (u0 u1 : Value) (a : Pt) : Prop := LoopsAt w u0 a.1 ∧ StmtsAt w u1 a.2
theorem PartR.ext {w w' : World} {u0 u1 : Value} {a : Pt} (h : PartR w u0 u1 a) (hb : Ext w w') : PartR w' u0 u1 a := ⟨h.1.ext hb, h.2.ext hb⟩
def PartsAt : World → Value → List Pt → Prop := PairsAt PartR
theorem PartsAt.ext {w w' : World} {v : Value} {xs : List Pt} (h : PartsAt w v xs) (hb : Ext w w') : PartsAt w' v xs := PairsAt.ext (R := PartR) (fun h hb => h.ext hb) h hb
theorem PartsAt.form {w : World} {v : Value} {xs : List Pt} (h : PartsAt w v xs) : ∃ p c, v = .slice p xs.length c ∧ xs.length ≤ 9223372036854775807 := by
  obtain ⟨p, c, hv, hm, _⟩ := h; exact ⟨p, c, hv, hm⟩
theorem PartsAt.elem {w : World} {p : Option Addr} {n c : Nat} {xs : List Pt} (h : PartsAt w (.slice p n c) xs) {i : Nat} {x : Pt} (hi : xs[i]? = some x) :
    ∃ b off q m q' m', p = some ⟨b, off, none⟩ ∧ w.cell? ⟨b, off + i * 2, none⟩ = some (.slice q x.1.length m) ∧ w.cell? ⟨b, off + i * 2 + 1, none⟩ = some (.slice q' x.2.length m') ∧ b < w.heap.size ∧ LoopsAt w (.slice q x.1.length m) x.1 ∧ StmtsAt w (.slice q' x.2.length m') x.2 := by
  obtain ⟨p', c', hv, hm, hc⟩ := h
  cases hv
  obtain ⟨b, off, u0, u1, hp, h0, h1, hlt, hr, hr'⟩ := hc i x hi
  obtain ⟨q, m, rfl, _⟩ := hr.form
  obtain ⟨q', m', rfl, _⟩ := hr'.form
  exact ⟨b, off, q, m, q', m', hp, h0, h1, hlt, hr, hr'⟩

/-- The value reads as a program: arrays and parts. -/
def PrR (w : World) (v : Value) (ars : List Arr) (ps : List Pt) : Prop := ∃ u0 u1, v = .agg #[u0, u1] ∧ ArrsAt w u0 ars ∧ PartsAt w u1 ps
theorem PrR.ext {w w' : World} {v : Value} {ars : List Arr} {ps : List Pt} (h : PrR w v ars ps) (hE : Ext w w') : PrR w' v ars ps := by
  obtain ⟨u0, u1, h1, h2, h3⟩ := h
  exact ⟨u0, u1, h1, h2.ext hE, h3.ext hE⟩
theorem PrR.parts {w : World} {v : Value} {ars : List Arr} {ps : List Pt} (h : PrR w v ars ps) : ∃ q m q' m', v = .agg #[.slice q ars.length m, .slice q' ps.length m'] ∧ ars.length ≤ 9223372036854775807 ∧ ps.length ≤ 9223372036854775807 ∧ ArrsAt w (.slice q ars.length m) ars ∧ PartsAt w (.slice q' ps.length m') ps := by
  obtain ⟨u0, u1, rfl, h2, h3⟩ := h
  obtain ⟨q, m, rfl, l1⟩ := h2.form
  obtain ⟨q', m', rfl, l2⟩ := h3.form
  exact ⟨q, m, q', m', rfl, l1, l2, h2, h3⟩

end Go.Proofs.Ytccibfldadflkaa
