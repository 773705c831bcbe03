/- The texts R7, joined. No statement is proved here. -/
import Derived.RangeFuncNested
import Derived.RangeFuncBound
import Derived.RangeFuncCalls
import Derived.Test.YtccibfldadflkaaK18
import Derived.Deep.DeepAppendRoom
import Derived.OwnWalkIn
import Derived.Shelf.Abstract
import Derived.RangeFuncStops
import Derived.TacticsInMore
import Derived.LoopNIn
import Derived.LoopIn
import Derived.Maps.AppendAt
import Derived.OrdersIn
import Derived.OrdersHeld
/- Ranges over functions: a law for an iterator and a consumer that are kept apart by their blocks. No statement is proved here. | The prefixes that the program's iterator yields. Under way: the deepest level. | The prefixes that the program's iterator yields: a level with loops below. Under way. | The prefixes that the program's iterator yields: every level. | Drawn regions inside a round of a range over a function; copies of points; rows of points kept by their blocks. No statement is proved here. -/
namespace Go.Proofs.Ytccibfldadflkaa
open Go.RowKit

/-- From W to W' no block that lay has turned but those of D. -/
structure Lv (D : Nat → Prop) (W W' : World) : Prop where
  os : W'.os = W.os
  tape : W'.tape = W.tape
  output : W'.output = W.output
  size : W.heap.size ≤ W'.heap.size
  block : ∀ k, k < W.heap.size → ¬ D k → W'.heap[k]? = W.heap[k]?
theorem Lv.refl (D : Nat → Prop) (W : World) : Lv D W W := ⟨rfl, rfl, rfl, Nat.le_refl _, fun _ _ _ => rfl⟩
theorem Lv.trans {D D' E : Nat → Prop} {A B C : World} (h : Lv D A B) (k : Lv D' B C) (hD : ∀ b, b < A.heap.size → D b → E b) (hD' : ∀ b, b < A.heap.size → D' b → E b) : Lv E A C :=
  ⟨k.os.trans h.os, k.tape.trans h.tape, k.output.trans h.output, Nat.le_trans h.size k.size, fun b hb hn => (k.block b (Nat.lt_of_lt_of_le hb h.size) (fun e => hn (hD' b hb e))).trans (h.block b hb (fun e => hn (hD b hb e)))⟩
theorem Lv.mono {D E : Nat → Prop} {A B : World} (h : Lv D A B) (hD : ∀ b, b < A.heap.size → D b → E b) : Lv E A B := h.trans (Lv.refl D B) hD (fun b hb e => hD b hb e)
theorem Lv.grown {D : Nat → Prop} {A B : World} {row : Option Nat} (h : A.grownBy B row) (hr : ∀ r, row = some r → r < A.heap.size → D r) : Lv D A B :=
  ⟨h.os, h.tape, h.output, h.size, fun b hb hn => h.block b hb (fun e => hn (hr b e.symm hb))⟩
theorem Lv.alloc (D : Nat → Prop) (W : World) (o : Obj) : Lv D W (W.alloc o) := Lv.grown (World.grownBy_alloc W o none) (fun _ e => by cases e)
theorem Lv.putObj {D : Nat → Prop} (W : World) (l : Nat) (o : Obj) (h : D l) : Lv D W (W.putObj l o) := Lv.grown (grownBy_putObj' W l o) (fun r e _ => by cases e; exact h)
theorem Lv.heap {D : Nat → Prop} {A B : World} {k : Nat} {o : Obj} (h : Lv D A B) (hk : A.heap[k]? = some o) (hn : ¬ D k) : B.heap[k]? = some o := (h.block k (Array.getElem?_eq_some_iff.1 hk).1 hn).trans hk

/-- What is said with the blocks it speaks of. -/
def Stable {α : Type} (I : List α → List Nat → World → Prop) : Prop := ∀ s own W W', I s own W → Lv (fun k => k ∉ own) W W' → I s own W'
/-- What a round has left of the consumer's blocks. -/
def Grew (own own' : List Nat) (W W' : World) : Prop := Lv (fun k => k ∈ own) W W' ∧ ∀ b ∈ own', (b ∈ own ∨ W.heap.size ≤ b) ∧ b < W'.heap.size

/-- How the body of a round may be left. -/
def sepPost {α : Type} (own : List Nat) (I : List α → List Nat → World → Prop) (Ix : Code → List α → List Nat → World → Prop) (xs : List α) (W : World) : Exit → Act → World → Prop
  | .normal, _, W' => ∃ own', Grew own own' W W' ∧ I xs own' W'
  | .ret, _, W' => ∃ own', Grew own own' W W' ∧ Ix .ret xs own' W'
  | .exit id, _, W' => ∃ own', Grew own own' W W' ∧ Ix (.exit id) xs own' W'
  | .goto t, _, W' => ∃ own', Grew own own' W W' ∧ Ix (.goto t) xs own' W'
  | .panic _, _, _ => False
  | .outgrown, _, _ => False

end Go.Proofs.Ytccibfldadflkaa

namespace Go.Proofs.Ytccibfldadflkaa
open Go.RowKit
attribute [local go_sem] Oper.semAt_some

/-- The block of a row of four ints begins with x. -/
def RowX (bp : Nat) (x : List Int) (V : World) : Prop := V.ownsRow 0 3 1 (.slice (some ⟨bp, 0, none⟩) x.length 4) x.length (x.map (Value.int .i64))
theorem RowX.lv {bp : Nat} {x : List Int} {V V' : World} {D : Nat → Prop} (h : RowX bp x V) (hv : Lv D V V') (hn : ¬ D bp) : RowX bp x V' := by
  refine ⟨h.1, ?_⟩
  rcases h.2 with hn' | ⟨g, cap, cur, e, hb, hg, r⟩
  · exact .inl hn'
  · cases e
    exact .inr ⟨bp, 4, cur, rfl, hb, hv.heap hg hn, r⟩
theorem RowX.block {bp : Nat} {x : List Int} {V : World} (h : RowX bp x V) : ∃ cs, V.heap[bp]? = some (.cells cs 3 (0, 0)) := by
  rcases h.2 with ⟨e, -⟩ | ⟨g, cap, cur, e, hb, hg, r⟩
  · cases e
  · cases e; exact ⟨cur, hg⟩
theorem round_wide {m m' : Nat} {P : Program} {l : Nat} {f : FuncId} {tmps : Array Value} {assign body : Code} {w : World} {R : Ending → World → Prop} (h : RoundIn Fence.wide m P l f tmps assign body w R) : RoundIn Fence.wide m' P l f tmps assign body w R := ⟨h.1, fun c cs _ => h.2 c cs (room_wide _)⟩
theorem Ext.lv {D : Nat → Prop} {A B : World} (h : Ext A B) : Lv D A B := ⟨h.os, h.tape, h.output, h.size, fun k hk _ => h.block k hk⟩
end Go.Proofs.Ytccibfldadflkaa

namespace Go.Proofs.Ytccibfldadflkaa
open Go.RowKit
attribute [local go_sem] Oper.semAt_some

theorem Lv.ext0 {D : Nat → Prop} {W0 A B : World} (h : Lv D A B) (hE : Ext W0 A) (hD : ∀ b, b < W0.heap.size → ¬ D b) : Ext W0 B :=
  Below.trans hE ⟨h.os, h.tape, h.output, h.size, fun b hb => h.block b (Nat.lt_of_lt_of_le hb hE.size_le) (hD b hb)⟩
end Go.Proofs.Ytccibfldadflkaa

namespace Go.Proofs.Ytccibfldadflkaa
open Go.RowKit

end Go.Proofs.Ytccibfldadflkaa

namespace Go.Proofs.Ytccibfldadflkaa
open Go.RowKit

/-- In a round the operations of a region do what they do outside, if none of them is a defer. -/
theorem opsIn_of_ops {l n : Nat} {P : Program} {ops : Array Oper} {Q : Exit → Act → World → Prop} (hd : ∀ (i : Nat) (o : Oper), ops[i]? = some o → ∀ c, o.op ≠ .defer c) (hL : ¬ LetsOut Q) :
    ∀ (is : List Nat) (a : Act) (w : World), wpOps P ops Q is a w → wpOpsIn (Fence.wide.inRound l) n P ops Q is a w
  | [], a, w, h => h
  | i :: is, a, w, h => by
    simp only [wpOps] at h
    simp only [wpOpsIn]
    cases ho : ops[i]? with
    | none => rw [ho] at h; exact opsIn_of_ops hd hL is a w h
    | some o =>
      rw [ho] at h
      dsimp only at h ⊢
      by_cases hw : Region.wanted o (yielded ops a.tmps) = true
      · rw [if_pos hw] at h ⊢
        have h := h.resolve_right (fun e => hL e.2)
        refine ⟨fun _ _ => trivial, ?_⟩
        rw [Oper.semAt_eq _ _ _ (hd i o ho)]
        unfold Oper.wp at h
        generalize (execOp a.eval o).run P w = r at h ⊢
        cases r with
        | ok x w' =>
          cases x with
          | value v => exact opsIn_of_ops hd hL is _ _ h
          | skip => exact opsIn_of_ops hd hL is _ _ h
          | defer d => exact opsIn_of_ops hd hL is _ _ h
          | enter f args =>
            refine ⟨fun e => (by cases e), ?_⟩
            have h1 : CallsIn Fence.wide (n - 1) P f args w' _ := callsIn_wide.2 h
            exact CallsIn.mono (F := Fence.wide.inRound l) h1 (fun e w'' he => by
              cases e with
              | returned v => exact opsIn_of_ops hd hL is _ _ he
              | panicked c => exact he
              | outgrown => exact he)
          | row r args =>
            refine ⟨fun e => (by cases e), fun c cs _ => ?_⟩
            obtain ⟨v, w'', r, s⟩ := h c cs
            exact ⟨v, w'', opsIn_of_ops hd hL is _ _ r, stepsIn_wide.2 s⟩
          | _ => exact h.elim
        | halt x w' =>
          cases x <;> exact h
      · rw [if_neg hw] at h ⊢
        exact ⟨fun _ _ => trivial, opsIn_of_ops hd hL is _ _ h⟩
def noDefer (ops : Array Oper) : Bool := ops.toList.all (fun o => match o.op with | .defer _ => false | _ => true)
/-- An append that tells where its row lies, at a step of a region that draws its order. -/
theorem step_append_at {P : Program} (w : World) {ops : Array Oper} {o : Oper} {a : Act} {K : Act → World → Prop} {Q : Exit → Act → World → Prop} {E : Prop} (hgd : o.guard = none) (s x : Operand) (t : TypeId)
    (ho : o.op = .call { callee := .builtin .append, args := #[s, x], argTypes := #[t, t] })
    (base : Nat) (e : TypeId) (i : TypeInfo) (z : Value) (size bytes : Nat) (ht : P.underlying t = some (.slice e)) (hi : P.info? e = some i) (hz : i.zero = some z)
    (hsize : i.size = size) (hby : i.bytes = bytes) (hzs : z.cells.size = size) (hsz : 0 < size)
    (v : Value) (n : Nat) (xs : List Value) (hs : a.eval s = v) (hown : w.ownsRow base e size v n xs)
    (ad : Addr) (m c : Nat) (news : List Value) (hx : a.eval x = .slice (some ad) m c) (hl : news.length = m * size) (hnews : ∀ j u, news[j]? = some u → w.cell? (ad.add j) = some u) (h1 : ∀ u ∈ news, u.oneCell' = true)
    (h63 : n + m ≤ maxLen) (hbytes : (n + m) * bytes ≤ 140737488355328) (hbase : base ≤ w.heap.size)
    (h : ∀ v' w', w'.ownsRow base e size v' (n + m) (xs ++ news) → w.grownBy w' v.ownBlock → (v' = .slice none 0 0 ↔ v = .slice none 0 0 ∧ m = 0) → (v'.ownBlock = v.ownBlock ∨ v'.ownBlock = some w.heap.size) → K (a.put o.dst v') w') :
    if Region.wanted o (yielded ops a.tmps) = true then Oper.wp P o a w K Q else E := by
  have hw : Region.wanted o (yielded ops a.tmps) = true := by simp [Region.wanted, hgd]
  rw [if_pos hw]
  obtain ⟨v', w', hr, h2, h3, h4, h5⟩ := run_append_own_at (P := P) w base t o.type e i z size bytes ht hi hz hsize hby hzs hsz v n xs hown ad m c news hl hnews h1 h63 hbytes hbase
  unfold Oper.wp execOp
  simp only [ho, resolve, invoke, builtin, Sem.run_bind, Sem.run_pure, Result.andThen_ok, List.map_toArray, List.map_cons, List.map_nil, hs, hx, hr]
  exact h v' w' h2 h3 h4 h5

/-- Lists of ints that lie in blocks of 'own', each in one of its own. -/
def PtsD (own : List Nat) (B : Nat) (X : World) (v : Value) (xss : List (List Int)) : Prop :=
  ∃ vs, X.ownsRow B 22 1 v xss.length vs ∧ (∀ b, v.ownBlock = some b → b ∈ own) ∧
    (∀ (i : Nat) (xs : List Int), xss[i]? = some xs → ∃ g c, vs[i]? = some (.slice (some ⟨g, 0, none⟩) xs.length c) ∧ IntsOwn B X (.slice (some ⟨g, 0, none⟩) xs.length c) xs ∧ g ∈ own ∧
      ∀ (j : Nat) (g' n' c' : Nat), j < i → vs[j]? = some (.slice (some ⟨g', 0, none⟩) n' c') → g' ≠ g)
theorem row_lv {B size n : Nat} {e : TypeId} {D : Nat → Prop} {w w' : World} {v : Value} {xs : List Value} (h : w.ownsRow B e size v n xs) (hv : Lv D w w') (hn : ∀ b, v.ownBlock = some b → ¬ D b) : w'.ownsRow B e size v n xs := by
  refine ⟨h.1, ?_⟩
  rcases h.2 with hn' | ⟨g, cap, cur, rfl, hb, hg, r⟩
  · exact .inl hn'
  · exact .inr ⟨g, cap, cur, rfl, hb, hv.heap hg (hn g rfl), r⟩
theorem PtsD.lv {own : List Nat} {B : Nat} {X X' : World} {v : Value} {xss : List (List Int)} (h : PtsD own B X v xss) (hv : Lv (fun k => k ∉ own) X X') : PtsD own B X' v xss := by
  obtain ⟨vs, ho, hb, he⟩ := h
  refine ⟨vs, row_lv ho hv (fun b h1 h2 => h2 (hb b h1)), hb, fun i xs hi => ?_⟩
  obtain ⟨g, c, h1, h2, h3, h4⟩ := he i xs hi
  exact ⟨g, c, h1, row_lv h2 hv (fun b h5 h6 => by simp [Value.ownBlock] at h5; subst h5; exact h6 h3), h3, h4⟩
theorem PtsD.nil (own : List Nat) (B : Nat) (X : World) : PtsD own B X (.slice none 0 0) [] := ⟨[], World.ownsRow_nil X B _ _, fun b h => by simp [Value.ownBlock] at h, fun i xs h => by simp at h⟩
/-- A function's return with its results in cells, where ranges over functions have left their marks. -/
theorem leaves_marks2 {F : Fence} {n : Nat} {P : Program} {fn : Func} {tmps : Array Value} {R : Ending → World → Prop} :
    ∀ (Es : List Nat) (W : World), (∀ E ∈ Es, W.heap[E]? = some (.deferred (some []))) → Es.Nodup → (∀ W', Lv (fun k => k ∈ Es) W W' → ∃ v, (results fn tmps).run P W' = .ok v W' ∧ R (.returned v) W') →
      LeavesInM F n P fn tmps R (Es.map fun E => { target := .collected E, args := #[] }) .returning W
  | [], W, _, _, h => by
    obtain ⟨v, h1, h2⟩ := h W (Lv.refl _ W)
    exact ⟨v, h1, h2⟩
  | E :: Es, W, hE, hn, h => by
    have h0 := hE E (by simp)
    have hlt : E < W.heap.size := (Array.getElem?_eq_some_iff.1 h0).1
    obtain ⟨hni, hn'⟩ := List.nodup_cons.1 hn
    have hv : Lv (fun k => k = E) W (W.putObj E (.deferred none)) := Lv.putObj W E _ rfl
    refine ⟨by simp, .inl ⟨E, _, rfl, run_takeDeferred h0, ?_⟩⟩
    refine leaves_marks2 Es _ (fun e he => hv.heap (hE e (by simp [he])) (fun h => hni (h ▸ he))) hn' (fun W' hw => h W' ?_)
    exact hv.trans hw (fun b _ e => by simp [e]) (fun b _ e => by simp [e])
end Go.Proofs.Ytccibfldadflkaa
