/- The texts U0 Hw, joined. No statement is proved here. -/
import Derived.Test.YtccibfldadflkaaK43
import Derived.Test.YtccibfldadflkaaK28
/- Traces as lists: stack distances, misses, what a cache that drops the cell used least recently holds; a ring of linked entries. No statement is proved here. -/
namespace Go.Proofs.Ytccibfldadflkaa
open Go.RowKit

def Lnk (la er : Nat → Nat) : Nat → Nat → List Nat → Prop
  | a, z, [] => er a = z ∧ la z = a
  | a, z, b :: r => er a = b ∧ la b = a ∧ Lnk la er b z r
theorem Lnk.split {la er : Nat → Nat} {b z : Nat} {r : List Nat} : ∀ {a : Nat} {l : List Nat}, Lnk la er a z (l ++ b :: r) ↔ Lnk la er a b l ∧ Lnk la er b z r
  | a, [] => by simp [Lnk, and_assoc]
  | a, x :: l => by simp only [List.cons_append, Lnk, Lnk.split (l := l), and_assoc]
theorem Lnk.frame {la er la' er' : Nat → Nat} {z : Nat} : ∀ {a : Nat} {l : List Nat}, Lnk la er a z l → (∀ x ∈ a :: l, er' x = er x) → (∀ x ∈ l ++ [z], la' x = la x) → Lnk la' er' a z l
  | a, [], h, h1, h2 => ⟨(h1 a (by simp)).trans h.1, (h2 z (by simp)).trans h.2⟩
  | a, x :: l, h, h1, h2 => ⟨(h1 a (by simp)).trans h.1, (h2 x (by simp)).trans h.2.1, Lnk.frame h.2.2 (fun y hy => h1 y (List.mem_cons_of_mem _ hy)) (fun y hy => h2 y (by simp only [List.cons_append, List.mem_cons]; exact .inr hy))⟩
theorem Lnk.first {la er : Nat → Nat} {z : Nat} {a : Nat} {l : List Nat} (h : Lnk la er a z l) : er a = l.headD z := by
  cases l with
  | nil => exact h.1
  | cons b r => exact h.1
end Go.Proofs.Ytccibfldadflkaa

/- Two ready operations of a drawn region; appending a list of ints that may be nil. No statement is proved here. -/
namespace Go.Proofs.Ytccibfldadflkaa
open Go.RowKit

theorem run_append_ints (w : World) (base : Nat) (ty : TypeId) (v : Value) (n : Nat) (xs : List Int) (hown : w.ownsRow base 3 1 v n (xs.map (Value.int .i64))) (p : Option Addr) (m c : Nat) (ys : List Int) (hys : IntsAt w (.slice p m c) ys)
    (h63 : n + m ≤ maxLen) (hbytes : (n + m) * 8 ≤ 140737488355328) (hbase : base ≤ w.heap.size) :
    ∃ v' w', (Builtin.append_ #[22, 22] ty #[v, .slice p m c]).run Try.prog w = .ok v' w' ∧ w'.ownsRow base 3 1 v' (n + m) ((xs ++ ys).map (Value.int .i64)) ∧ w.grownBy w' v.ownBlock ∧ (v'.ownBlock = v.ownBlock ∨ v'.ownBlock = some w.heap.size) := by
  obtain ⟨i0, hi, hz0, hz1, hz2⟩ := info_parts infoInt
  obtain ⟨p', c', e, hm, hc⟩ := id hys
  simp only [Value.slice.injEq] at e
  obtain ⟨rfl, rfl, rfl⟩ := e
  cases p with
  | none =>
    have hy : ys = [] := by
      cases ys with
      | nil => rfl
      | cons y r => obtain ⟨b, off, h, -⟩ := hc 0 y rfl; cases h
    subst hy
    obtain ⟨q, cap, rfl, hcap⟩ : ∃ q cap, v = .slice q n cap ∧ n ≤ cap := by
      rcases hown.2 with ⟨rfl, hn0⟩ | ⟨g', c', cur, e, _, _, h, _⟩
      · exact ⟨none, 0, by rw [hn0], by omega⟩
      · exact ⟨_, c', e, h⟩
    refine ⟨.slice q n cap, w, ?_, by simpa using hown, (Ext.refl w).grownBy _, .inl rfl⟩
    cases q <;> simp [Builtin.append_, run_underlying Try.underlying22, sizeOf, typeInfo, hi, hcap, Builtin.lenOf, Builtin.firstCells, loadCells, storeCells]
  | some a =>
    have hnews : ∀ j u, (ys.map (Value.int .i64))[j]? = some u → w.cell? (a.add j) = some u := fun j u hu => by
      rw [List.getElem?_map] at hu
      obtain ⟨y, hy, rfl⟩ := Option.map_eq_some_iff.1 hu
      obtain ⟨b, off, h, hcell⟩ := hc j y hy
      cases h
      rw [Addr.add_lit]; exact hcell
    obtain ⟨v', w', h1, h2, h3, h4, h5⟩ := run_append_own_at (P := Try.prog) w base 22 ty 3 i0 (.int .i64 0) 1 8 Try.underlying22 hi hz0 hz1 hz2 rfl (by decide) v n _ hown a ys.length c (ys.map (Value.int .i64)) (by simp) hnews (by intro u hu; obtain ⟨z, -, rfl⟩ := List.mem_map.1 hu; rfl) h63 hbytes hbase
    exact ⟨v', w', h1, by rw [List.map_append]; exact h2, h3, h5⟩
theorem step_append_ints (w : World) {ops : Array Oper} {o : Oper} {a : Act} {K : Act → World → Prop} {Q : Exit → Act → World → Prop} {E : Prop} (hgd : o.guard = none) (s x : Operand)
    (ho : o.op = .call { callee := .builtin .append, args := #[s, x], argTypes := #[22, 22] })
    (base : Nat) (v : Value) (n : Nat) (xs : List Int) (hs : a.eval s = v) (hown : w.ownsRow base 3 1 v n (xs.map (Value.int .i64))) (p : Option Addr) (m c : Nat) (ys : List Int) (hx : a.eval x = .slice p m c) (hys : IntsAt w (.slice p m c) ys)
    (h63 : n + m ≤ maxLen) (hbytes : (n + m) * 8 ≤ 140737488355328) (hbase : base ≤ w.heap.size)
    (h : ∀ v' w', w'.ownsRow base 3 1 v' (n + m) ((xs ++ ys).map (Value.int .i64)) → w.grownBy w' v.ownBlock → (v'.ownBlock = v.ownBlock ∨ v'.ownBlock = some w.heap.size) → K (a.put o.dst v') w') :
    if Region.wanted o (yielded ops a.tmps) = true then Oper.wp Try.prog o a w K Q else E := by
  have hw : Region.wanted o (yielded ops a.tmps) = true := by simp [Region.wanted, hgd]
  rw [if_pos hw]
  obtain ⟨v', w', hr, h2, h3, h4⟩ := run_append_ints w base o.type v n xs hown p m c ys hys h63 hbytes hbase
  unfold Oper.wp execOp
  simp only [ho, resolve, invoke, builtin, Sem.run_bind, Sem.run_pure, Result.andThen_ok, List.map_toArray, List.map_cons, List.map_nil, hs, hx, hr]
  exact h v' w' h2 h3 h4
end Go.Proofs.Ytccibfldadflkaa
