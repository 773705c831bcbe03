/- The texts D8 G0, joined. No statement is proved here. -/
import Derived.Test.YtccibfldadflkaaQV12
import Derived.Test.YtccibfldadflkaaQV32
import Derived.Deep.SlicePairs
/- Draws: the arguments of AddAffine. -/
namespace Go.Proofs.Ytccibfldadflkaa
open Go.RowKit

end Go.Proofs.Ytccibfldadflkaa

/- Programs in memory: lists of statements, arrays, parts; the argument opened. No statement is proved here. -/
namespace Go.Proofs.Ytccibfldadflkaa
open Go.RowKit Go.ChangeShapes Go.WideShapes Go.ChangeAt Go.Joins

/-- A statement: array and subscripts of the written element, value. -/
abbrev St := ByteArray × List Aff × Ex
/-- The value v reads as a list of statements. -/
def StmtsAt (w : World) (v : Value) (ss : List St) : Prop := ∃ p c, ∃ us : Nat → List Value, v = .slice p ss.length c ∧ ss.length ≤ 9223372036854775807 ∧
  (∀ (i : Nat) (s : St), ss[i]? = some s → ∃ b off, p = some ⟨b, off, none⟩ ∧ b < w.heap.size ∧ ∀ (j : Nat) (v : Value), (us i)[j]? = some v → w.cell? ⟨b, off + i * 9 + j, none⟩ = some v) ∧ ∀ (i : Nat) (s : St), ss[i]? = some s → StR w (.agg (us i).toArray) s.1 s.2.1 s.2.2
theorem StmtsAt.ext {w w' : World} {v : Value} {ss : List St} (h : StmtsAt w v ss) (hE : Ext w w') : StmtsAt w' v ss := by
  obtain ⟨p, c, us, hv, hl, hc, hk⟩ := h
  refine ⟨p, c, us, hv, hl, fun i e hi => ?_, fun i e hi => (hk i e hi).ext hE⟩
  obtain ⟨b, off, h1, h2, h3⟩ := hc i e hi
  exact ⟨b, off, h1, Nat.lt_of_lt_of_le h2 hE.size_le, fun j v hj => hE.keep (h3 j v hj)⟩
theorem StmtsAt.form {w : World} {v : Value} {ss : List St} (h : StmtsAt w v ss) : ∃ p c, v = .slice p ss.length c ∧ ss.length ≤ 9223372036854775807 := by
  obtain ⟨p, c, us, hv, hl, _⟩ := h; exact ⟨p, c, hv, hl⟩
/-- Element i of a list of statements: its nine cells. -/
theorem StmtsAt.elem {w : World} {p : Option Addr} {n c i : Nat} {ss : List St} {s : St} (h : StmtsAt w (.slice p n c) ss) (hi : ss[i]? = some s) :
    ∃ b off q1 d1 q2 d2 q3 d3 q4 d4, p = some ⟨b, off, none⟩ ∧ b < w.heap.size ∧ w.cell? ⟨b, off + i * 9, none⟩ = some (.string s.1) ∧ w.cell? ⟨b, off + i * 9 + 1, none⟩ = some (.slice q1 s.2.1.length d1) ∧
      w.cell? ⟨b, off + i * 9 + 2, none⟩ = some (.int .i64 s.2.2.kind) ∧ w.cell? ⟨b, off + i * 9 + 3, none⟩ = some (.int .i64 s.2.2.num) ∧ w.cell? ⟨b, off + i * 9 + 4, none⟩ = some (.slice q2 s.2.2.ix.1.length d2) ∧ w.cell? ⟨b, off + i * 9 + 5, none⟩ = some (.int .i64 s.2.2.ix.2) ∧
      w.cell? ⟨b, off + i * 9 + 6, none⟩ = some (.string s.2.2.arr) ∧ w.cell? ⟨b, off + i * 9 + 7, none⟩ = some (.slice q3 s.2.2.subs.length d3) ∧ w.cell? ⟨b, off + i * 9 + 8, none⟩ = some (.slice q4 s.2.2.kids.length d4) ∧
      StR w (.agg #[.string s.1, .slice q1 s.2.1.length d1, .int .i64 s.2.2.kind, .int .i64 s.2.2.num, .slice q2 s.2.2.ix.1.length d2, .int .i64 s.2.2.ix.2, .string s.2.2.arr, .slice q3 s.2.2.subs.length d3, .slice q4 s.2.2.kids.length d4]) s.1 s.2.1 s.2.2 := by
  obtain ⟨p', c', us, hv, hl, hc, hk⟩ := h
  simp only [Value.slice.injEq] at hv
  obtain ⟨rfl, -, rfl⟩ := hv
  obtain ⟨b, off, h1, h2, h3⟩ := hc i s hi
  have hst := hk i s hi
  obtain ⟨q1, d1, q2, d2, q3, d3, q4, d4, hcs, -, -, -⟩ := hst.parts
  have hcs' : us i = [.string s.1, .slice q1 s.2.1.length d1, .int .i64 s.2.2.kind, .int .i64 s.2.2.num, .slice q2 s.2.2.ix.1.length d2, .int .i64 s.2.2.ix.2, .string s.2.2.arr, .slice q3 s.2.2.subs.length d3, .slice q4 s.2.2.kids.length d4] := by
    simpa using hcs
  rw [hcs'] at h3 hst
  exact ⟨b, off, q1, d1, q2, d2, q3, d3, q4, d4, h1, h2, h3 0 _ rfl, h3 1 _ rfl, h3 2 _ rfl, h3 3 _ rfl, h3 4 _ rfl, h3 5 _ rfl, h3 6 _ rfl, h3 7 _ rfl, h3 8 _ rfl, hst⟩

/-- An array: name and dimensions. -/
abbrev Arr := ByteArray × List Int
def ArrR (w : World) (u0 u1 : Value) (a : Arr) : Prop := u0 = .string a.1 ∧ a.1.size ≤ 9223372036854775807 ∧ IntsAt w u1 a.2
theorem ArrR.ext {w w' : World} {u0 u1 : Value} {a : Arr} (h : ArrR w u0 u1 a) (hb : Ext w w') : ArrR w' u0 u1 a := ⟨h.1, h.2.1, h.2.2.ext hb⟩
def ArrsAt : World → Value → List Arr → Prop := PairsAt ArrR
theorem ArrsAt.ext {w w' : World} {v : Value} {xs : List Arr} (h : ArrsAt w v xs) (hb : Ext w w') : ArrsAt w' v xs := PairsAt.ext (R := ArrR) (fun h hb => h.ext hb) h hb
theorem ArrsAt.form {w : World} {v : Value} {xs : List Arr} (h : ArrsAt w v xs) : ∃ p c, v = .slice p xs.length c ∧ xs.length ≤ 9223372036854775807 := by
  obtain ⟨p, c, hv, hm, _⟩ := h; exact ⟨p, c, hv, hm⟩
theorem ArrsAt.elem {w : World} {p : Option Addr} {n c : Nat} {xs : List Arr} (h : ArrsAt w (.slice p n c) xs) {i : Nat} {x : Arr} (hi : xs[i]? = some x) :
    ∃ b off q m, p = some ⟨b, off, none⟩ ∧ w.cell? ⟨b, off + i * 2, none⟩ = some (.string x.1) ∧ w.cell? ⟨b, off + i * 2 + 1, none⟩ = some (.slice q x.2.length m) ∧ b < w.heap.size ∧ x.1.size ≤ 9223372036854775807 ∧ IntsAt w (.slice q x.2.length m) x.2 := by
  obtain ⟨p', c', hv, hm, hc⟩ := h
  cases hv
  obtain ⟨b, off, u0, u1, hp, h0, h1, hlt, rfl, hs, hr⟩ := hc i x hi
  obtain ⟨q, m, rfl, _⟩ := id hr
  exact ⟨b, off, q, m, hp, h0, h1, hlt, hs, hr⟩

/-- A part: nest and body. -/
abbrev Pt := List Lp × List St
def PartR (w : World) (u0 u1 : Value) (a : Pt) : Prop := LoopsAt w u0 a.1 ∧ StmtsAt w u1 a.2
theorem PartR.ext {w w' : World} {u0 u1 : Value} {a : Pt} (h : PartR w u0 u1 a) (hb : Ext w w') : PartR w' u0 u1 a := ⟨h.1.ext hb, h.2.ext hb⟩
def PartsAt : World → Value → List Pt → Prop := PairsAt PartR
theorem PartsAt.ext {w w' : World} {v : Value} {xs : List Pt} (h : PartsAt w v xs) (hb : Ext w w') : PartsAt w' v xs := PairsAt.ext (R := PartR) (fun h hb => h.ext hb) h hb
theorem PartsAt.form {w : World} {v : Value} {xs : List Pt} (h : PartsAt w v xs) : ∃ p c, v = .slice p xs.length c ∧ xs.length ≤ 9223372036854775807 := by
  obtain ⟨p, c, hv, hm, _⟩ := h; exact ⟨p, c, hv, hm⟩
theorem PartsAt.elem {w : World} {p : Option Addr} {n c : Nat} {xs : List Pt} (h : PartsAt w (.slice p n c) xs) {i : Nat} {x : Pt} (hi : xs[i]? = some x) :
    ∃ b off q m q' m', p = some ⟨b, off, none⟩ ∧ w.cell? ⟨b, off + i * 2, none⟩ = some (.slice q x.1.length m) ∧ w.cell? ⟨b, off + i * 2 + 1, none⟩ = some (.slice q' x.2.length m') ∧ b < w.heap.size ∧ LoopsAt w (.slice q x.1.length m) x.1 ∧ StmtsAt w (.slice q' x.2.length m') x.2 := by
  obtain ⟨p', c', hv, hm, hc⟩ := h
  cases hv
  obtain ⟨b, off, u0, u1, hp, h0, h1, hlt, hr, hr'⟩ := hc i x hi
  obtain ⟨q, m, rfl, _⟩ := hr.form
  obtain ⟨q', m', rfl, _⟩ := hr'.form
  exact ⟨b, off, q, m, q', m', hp, h0, h1, hlt, hr, hr'⟩

/-- The value reads as a program: arrays and parts. -/
def PrR (w : World) (v : Value) (ars : List Arr) (ps : List Pt) : Prop := ∃ u0 u1, v = .agg #[u0, u1] ∧ ArrsAt w u0 ars ∧ PartsAt w u1 ps
theorem PrR.ext {w w' : World} {v : Value} {ars : List Arr} {ps : List Pt} (h : PrR w v ars ps) (hE : Ext w w') : PrR w' v ars ps := by
  obtain ⟨u0, u1, h1, h2, h3⟩ := h
  exact ⟨u0, u1, h1, h2.ext hE, h3.ext hE⟩
theorem PrR.parts {w : World} {v : Value} {ars : List Arr} {ps : List Pt} (h : PrR w v ars ps) : ∃ q m q' m', v = .agg #[.slice q ars.length m, .slice q' ps.length m'] ∧ ars.length ≤ 9223372036854775807 ∧ ps.length ≤ 9223372036854775807 ∧ ArrsAt w (.slice q ars.length m) ars ∧ PartsAt w (.slice q' ps.length m') ps := by
  obtain ⟨u0, u1, rfl, h2, h3⟩ := h
  obtain ⟨q, m, rfl, l1⟩ := h2.form
  obtain ⟨q', m', rfl, l2⟩ := h3.form
  exact ⟨q, m, q', m', rfl, l1, l2, h2, h3⟩

end Go.Proofs.Ytccibfldadflkaa
