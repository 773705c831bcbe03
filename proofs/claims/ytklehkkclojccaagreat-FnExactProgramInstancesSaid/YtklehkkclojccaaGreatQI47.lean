/- The texts E3 E4, joined. No statement is proved here. -/
import Derived.Test.YtklehkkclojccaaGreatQI45
import Derived.Test.YtklehkkclojccaaGreatQI21
import Derived.Test.YtklehkkclojccaaGreatQI09
import Derived.Test.YtklehkkclojccaaGreatQI46
namespace Go.Proofs.YtklehkkclojccaaGreat
open Go.RowKit Go.Maps
theorem StmsOwn.at3 {B n c i : Nat} {w : World} {p : Option Addr} {ss : List St} {s : St} (h : StmsOwn B w (.slice p n c) ss) (hn : ss.length = n) (hi : ss[i]? = some s) :
  ∃ g u0 u1 u2, p = some ⟨g, 0, none⟩ ∧ g < w.heap.size ∧ w.cell? ⟨g, i * 3, none⟩ = some u0 ∧ w.cell? ⟨g, i * 3 + 1, none⟩ = some u1 ∧ w.cell? ⟨g, i * 3 + 2, none⟩ = some u2 ∧ StmR B w u0 u1 u2 s := by
 obtain ⟨vs, ho, he⟩ := h
 obtain ⟨u0, u1, u2, h0, h1, h2, hr⟩ := he i s hi
 have ho2 := ho.2
 rcases ho2 with ⟨e, hz⟩ | ⟨g, cap, cur, e, _, hg, _⟩
 ·have := (List.getElem?_eq_some_iff.1 hi).1; omega
 ·cases e
  have hc : ∀ j u, vs[j]? = some u → w.cell? ⟨g, j, none⟩ = some u := fun j u hu => by
   have h := World.ownsRow.cells ho (g := g) rfl j u hu
   have hadd : (⟨g, 0, none⟩ : Addr).add j = ⟨g, j, none⟩ := by unfold Addr.add; split <;> simp_all
   rw [hadd] at h
   exact h
  exact ⟨g, u0, u1, u2, rfl, lt_of_block hg, hc _ _ h0, hc _ _ h1, hc _ _ h2, hr⟩
theorem PartsOwn.at2 {B n c i : Nat} {w : World} {p : Option Addr} {ps : List Pt} {x : Pt} (h : PartsOwn B w (.slice p n c) ps) (hn : ps.length = n) (hi : ps[i]? = some x) :
  ∃ g u0 u1, p = some ⟨g, 0, none⟩ ∧ g < w.heap.size ∧ w.cell? ⟨g, i * 2, none⟩ = some u0 ∧ w.cell? ⟨g, i * 2 + 1, none⟩ = some u1 ∧ PartP B w u0 u1 x := by
 obtain ⟨vs, ho, he⟩ := h
 obtain ⟨u0, u1, h0, h1, hr⟩ := he i x hi
 have ho2 := ho.2
 rcases ho2 with ⟨e, hz⟩ | ⟨g, cap, cur, e, _, hg, _⟩
 ·have := (List.getElem?_eq_some_iff.1 hi).1; omega
 ·cases e
  have hc : ∀ j u, vs[j]? = some u → w.cell? ⟨g, j, none⟩ = some u := fun j u hu => by
   have h := World.ownsRow.cells ho (g := g) rfl j u hu
   have hadd : (⟨g, 0, none⟩ : Addr).add j = ⟨g, j, none⟩ := by unfold Addr.add; split <;> simp_all
   rw [hadd] at h
   exact h
  exact ⟨g, u0, u1, rfl, lt_of_block hg, hc _ _ h0, hc _ _ h1, hr⟩
def FfL (C : Nat → Prop) (B : Nat) (w1 : World) (mo : Option Nat) (T : Int) (B' : Nat) (W : World) (v : Value) (ss : List St) : Prop :=
 ∃ vs, W.ownsRow B' 264 1 v ss.length vs ∧ ∀ (i : Nat) (s : St), ss[i]? = some s → ∃ f, vs[i]? = some f ∧ FnR C B w1 mo T W f s.2.2
theorem FfL.nil (C : Nat → Prop) (B : Nat) (w1 : World) (mo : Option Nat) (T : Int) (B' : Nat) (W : World) : FfL C B w1 mo T B' W (.slice none 0 0) [] := ⟨[], World.ownsRow_nil _ _ _ _, fun i s h => by simp at h⟩
theorem FfL.ext {C : Nat → Prop} {B : Nat} {w1 : World} {mo : Option Nat} {T : Int} {B' : Nat} {W W' : World} {v : Value} {ss : List St} (h : FfL C B w1 mo T B' W v ss) (hE : Ext W W') : FfL C B w1 mo T B' W' v ss := by
 obtain ⟨vs, h1, h2⟩ := h
 exact ⟨vs, ownsRow_ext h1 hE, fun i s hi => by obtain ⟨f, a, b⟩ := h2 i s hi; exact ⟨f, a, b.ext hE⟩⟩
theorem FfL.form {C : Nat → Prop} {B : Nat} {w1 : World} {mo : Option Nat} {T : Int} {B' : Nat} {W : World} {v : Value} {ss : List St} (h : FfL C B w1 mo T B' W v ss) : ∃ p c, v = .slice p ss.length c := by
 obtain ⟨vs, ho, _⟩ := h
 rcases ho.2 with ⟨rfl, hn⟩ | ⟨g, cap, cur, rfl, _⟩
 ·exact ⟨none, 0, by rw [hn]⟩
 ·exact ⟨_, _, rfl⟩
theorem FfL.push {C C1 C2 : Nat → Prop} {B : Nat} {w1 : World} {mo : Option Nat} {T : Int} {B' k : Nat} {W W3 W5 : World} {v' f : Value} {ss : List St} {s : St} {vs : List Value} (hk : ss.length = k) (hvl : vs.length = k) (he : ∀ (i : Nat) (s : St), ss[i]? = some s → ∃ f, vs[i]? = some f ∧ FnR C B w1 mo T W f s.2.2)
  (hK : KeepC C W W5) (hf : FnR C1 B w1 mo T W3 f s.2.2) (hK1 : KeepC C1 W3 W5) (h1 : ∀ g, C g → C2 g) (h2 : ∀ g, C1 g → C2 g) (ho : W5.ownsRow B' 264 1 v' (k + 1) (vs ++ [f])) : FfL C2 B w1 mo T B' W5 v' (ss ++ [s]) := by
 refine ⟨vs ++ [f], by rw [List.length_append, hk]; exact ho, fun i x hi => ?_⟩
 rcases Nat.lt_or_ge i k with hlt | hge
 ·rw [List.getElem?_append_left (by omega)] at hi
  obtain ⟨f0, a, b⟩ := he i x hi
  exact ⟨f0, by rw [List.getElem?_append_left (by omega)]; exact a, (b.keep hK).mono h1⟩
 ·rw [List.getElem?_append_right (by omega)] at hi
  have hi0 : i = k := by
   rcases Nat.eq_or_lt_of_le hge with h | h
   ·exact h.symm
   ·rw [List.getElem?_eq_none (by simp; omega)] at hi; cases hi
  subst hi0
  rw [hk, Nat.sub_self] at hi
  simp at hi
  subst hi
  exact ⟨f, by rw [List.getElem?_append_right (by omega)]; simp [hvl], (hf.keep hK1).mono h2⟩
theorem FfL.mono {C C2 : Nat → Prop} {B : Nat} {w1 : World} {mo : Option Nat} {T : Int} {B' : Nat} {W : World} {v : Value} {ss : List St} (h : FfL C B w1 mo T B' W v ss) (hC : ∀ g, C g → C2 g) : FfL C2 B w1 mo T B' W v ss := by
 obtain ⟨vs, h1, h2⟩ := h
 exact ⟨vs, h1, fun i s hi => by obtain ⟨f, a, b⟩ := h2 i s hi; exact ⟨f, a, b.mono hC⟩⟩
theorem own_ge2 {w : World} {B n : Nat} {t : TypeId} {v : Value} {xs : List Value} (h : w.ownsRow B t 1 v n xs) : ∀ b, v.ownBlock = some b → B ≤ b ∧ b < w.heap.size := by
 intro b hb
 rcases h.2 with ⟨rfl, -⟩ | ⟨g, cap, cur, rfl, hge, hg, _⟩
 ·simp [Value.ownBlock] at hb
 ·simp [Value.ownBlock] at hb; subst hb; exact ⟨hge, lt_of_block hg⟩
end Go.Proofs.YtklehkkclojccaaGreat
namespace Go.Proofs.YtklehkkclojccaaGreat
open Go.RowKit Go.Maps
theorem cloneA_any (p : Option Addr) (n c : Nat) (xs : List Int) (w : World) (hl : xs.length = n) (hs : IntsAt w (.slice p n c) xs) (hn : n ≤ 1048576) :
  Calls Tryz.prog 51 #[.slice p n c] w fun e w' => (∃ p' c', e = .returned (.slice p' n c') ∧ IntsOwn w.heap.size w' (.slice p' n c') xs) ∧ Ext w w' := by
 obtain ⟨hm, hc⟩ := hs.cl
 cases p with
 | some ad =>
  refine (cloneNew_any ad n c xs w hl (fun i x hi => ?_) hn).mono ?_
  ·obtain ⟨b, off, e, hcell⟩ := hc i x hi
   cases e
   have hadd : (⟨b, off, none⟩ : Addr).add i = ⟨b, off + i, none⟩ := by unfold Addr.add; split <;> simp_all
   rw [hadd]
   exact hcell
  ·rintro e w' ⟨g, c', rfl, h1, -, -, h4⟩
   exact ⟨⟨_, _, rfl, h1⟩, h4⟩
 | none =>
  have h0 : n = 0 := by
   rcases Nat.eq_zero_or_pos n with h | h
   ·exact h
   ·obtain ⟨x, hx⟩ := get_some (xs := xs) (k := 0) (by omega)
    obtain ⟨b, off, e, -⟩ := hc 0 x hx
    cases e
  subst h0
  obtain rfl : xs = [] := List.eq_nil_of_length_eq_zero hl
  have hnil : ∀ (w' : World), Sem.run Tryz.prog (binOp .eql 39 (.slice none 0 c) (.slice none 0 0)) w' = .ok (.bool true) w' := by
   intro w'
   have h : ∀ d : Nat, (Op.equalIn (d + 1) 39 (.slice none 0 c) (.slice none 0 0)).run Tryz.prog w' = .ok true w' := fun d => by
    simp [Op.equalIn, run_underlying underSliceInt]
   simp [binOp, Op.equal, Op.maxDepth, h 9999]
  clear hm hc hl hs
  go_enter Tryz.func51, Tryz.ntmps51
  go_wp2
  go_ret
  exact ⟨⟨_, _, rfl, World.ownsRow_nil _ _ _ _⟩, Ext.refl _⟩
def FsL (C : Nat → Prop) (B : Nat) (w1 : World) (mo : Option Nat) (T : Int) (B' : Nat) (W : World) (v : Value) (ps : List Pt) : Prop :=
 ∃ vs, W.ownsRow B' 186 1 v ps.length vs ∧ ∀ (i : Nat) (x : Pt), ps[i]? = some x → ∃ f, vs[i]? = some f ∧ FfL C B w1 mo T B' W f x.2 ∧ ∀ b, f.ownBlock = some b → C b
theorem FsL.nil (C : Nat → Prop) (B : Nat) (w1 : World) (mo : Option Nat) (T : Int) (B' : Nat) (W : World) : FsL C B w1 mo T B' W (.slice none 0 0) [] := ⟨[], World.ownsRow_nil _ _ _ _, fun i s h => by simp at h⟩
theorem FfL.keep {C : Nat → Prop} {B : Nat} {w1 : World} {mo : Option Nat} {T : Int} {B' : Nat} {W W' : World} {v : Value} {ss : List St} (h : FfL C B w1 mo T B' W v ss) (hv : ∀ b, v.ownBlock = some b → C b) (hK : KeepC C W W') : FfL C B w1 mo T B' W' v ss := by
 obtain ⟨vs, h1, h2⟩ := h
 refine ⟨vs, ⟨h1.1, ?_⟩, fun i s hi => by obtain ⟨f, a, b⟩ := h2 i s hi; exact ⟨f, a, b.keep hK⟩⟩
 rcases h1.2 with h | ⟨g, cap, cur, rfl, hge, hg, hr⟩
 ·exact .inl h
 ·exact .inr ⟨g, cap, cur, rfl, hge, hK.blk (hv g rfl) hg, hr⟩
theorem FfL.weak {C : Nat → Prop} {B : Nat} {w1 : World} {mo : Option Nat} {T : Int} {B' B2 : Nat} {W : World} {v : Value} {ss : List St} (h : FfL C B w1 mo T B' W v ss) (hB : B2 ≤ B') : FfL C B w1 mo T B2 W v ss := by
 obtain ⟨vs, h1, h2⟩ := h
 exact ⟨vs, ownsRow_weak h1 hB, h2⟩
theorem FfL.own {C : Nat → Prop} {B : Nat} {w1 : World} {mo : Option Nat} {T : Int} {B' : Nat} {W : World} {v : Value} {ss : List St} (h : FfL C B w1 mo T B' W v ss) : ∀ b, v.ownBlock = some b → B' ≤ b ∧ b < W.heap.size := by
 obtain ⟨vs, h1, -⟩ := h
 exact own_ge2 h1
theorem FsL.push {C C1 C2 : Nat → Prop} {B : Nat} {w1 : World} {mo : Option Nat} {T : Int} {B' k : Nat} {W W3 W5 : World} {v' f : Value} {ps : List Pt} {s : Pt} {vs : List Value} (hk : ps.length = k) (hvl : vs.length = k)
  (he : ∀ (i : Nat) (x : Pt), ps[i]? = some x → ∃ f, vs[i]? = some f ∧ FfL C B w1 mo T B' W f x.2 ∧ ∀ b, f.ownBlock = some b → C b)
  (hK : KeepC C W W5) (hf : FfL C1 B w1 mo T B' W3 f s.2) (hfo : ∀ b, f.ownBlock = some b → C1 b) (hK1 : KeepC C1 W3 W5) (h1 : ∀ g, C g → C2 g) (h2 : ∀ g, C1 g → C2 g) (ho : W5.ownsRow B' 186 1 v' (k + 1) (vs ++ [f])) : FsL C2 B w1 mo T B' W5 v' (ps ++ [s]) := by
 refine ⟨vs ++ [f], by rw [List.length_append, hk]; exact ho, fun i x hi => ?_⟩
 rcases Nat.lt_or_ge i k with hlt | hge
 ·rw [List.getElem?_append_left (by omega)] at hi
  obtain ⟨f0, a, b, c⟩ := he i x hi
  exact ⟨f0, by rw [List.getElem?_append_left (by omega)]; exact a, (b.keep c hK).mono h1, fun g hg => h1 g (c g hg)⟩
 ·rw [List.getElem?_append_right (by omega)] at hi
  have hi0 : i = k := by
   rcases Nat.eq_or_lt_of_le hge with h | h
   ·exact h.symm
   ·rw [List.getElem?_eq_none (by simp; omega)] at hi; cases hi
  subst hi0
  rw [hk, Nat.sub_self] at hi
  simp at hi
  subst hi
  exact ⟨f, by rw [List.getElem?_append_right (by omega)]; simp [hvl], (hf.keep hfo hK1).mono h2, fun g hg => h2 g (hfo g hg)⟩
theorem FsL.keep {C : Nat → Prop} {B : Nat} {w1 : World} {mo : Option Nat} {T : Int} {B' : Nat} {W W' : World} {v : Value} {ps : List Pt} (h : FsL C B w1 mo T B' W v ps) (hK : KeepC C W W') (hv : ∀ b, v.ownBlock = some b → W'.heap[b]? = W.heap[b]?) : FsL C B w1 mo T B' W' v ps := by
 obtain ⟨vs, h1, h2⟩ := h
 refine ⟨vs, ⟨h1.1, ?_⟩, fun i s hi => by obtain ⟨f, a, b, c⟩ := h2 i s hi; exact ⟨f, a, b.keep c hK, c⟩⟩
 rcases h1.2 with h | ⟨g, cap, cur, rfl, hge, hg, hr⟩
 ·exact .inl h
 ·exact .inr ⟨g, cap, cur, rfl, hge, (hv g rfl).trans hg, hr⟩
theorem FsL.mono {C C2 : Nat → Prop} {B : Nat} {w1 : World} {mo : Option Nat} {T : Int} {B' : Nat} {W : World} {v : Value} {ps : List Pt} (h : FsL C B w1 mo T B' W v ps) (hC : ∀ g, C g → C2 g) : FsL C2 B w1 mo T B' W v ps := by
 obtain ⟨vs, h1, h2⟩ := h
 exact ⟨vs, h1, fun i s hi => by obtain ⟨f, a, b, c⟩ := h2 i s hi; exact ⟨f, a, b.mono hC, fun g hg => hC g (c g hg)⟩⟩
theorem blk4' {W : World} {g : Nat} {a b c d : Value} {t : TypeId} (h : W.heap[g]? = some (.cells #[a, b, c, d] t (0, 0))) : W.cell? ⟨g, 0, none⟩ = some a ∧ W.cell? ⟨g, 1, none⟩ = some b ∧ W.cell? ⟨g, 2, none⟩ = some c ∧ W.cell? ⟨g, 3, none⟩ = some d ∧ ∀ j, W.frozen? ⟨g, j, none⟩ = false := by
 simp [World.cell?, World.frozen?, h]
theorem EvsOwn.lvB {D : Nat → Prop} {B : Nat} {w w' : World} {v : Value} {es : List Ev} (h : EvsOwn B w v es) (hv : Lv D w w') (hD : ∀ b, D b → b < B) : EvsOwn B w' v es := by
 obtain ⟨vs, h1, h2⟩ := h
 refine ⟨vs, row_lv h1 hv (fun b hb hd => by have h3 := (World.ownsRow.lt h1 b hb).1; have h4 := hD b hd; omega), fun i x hi => ?_⟩
 obtain ⟨u0, u1, u2, u3, u4, a0, a1, a2, a3, a4, hr⟩ := h2 i x hi
 refine ⟨u0, u1, u2, u3, u4, a0, a1, a2, a3, a4, hr.lv hv (fun b hb hd => ?_) (fun b hb hd => ?_)⟩
 ·obtain ⟨-, -, ⟨g, c, e, hi2⟩, -, -⟩ := hr
  have h3 := (World.ownsRow.lt hi2 b hb).1; have h4 := hD b hd; omega
 ·obtain ⟨-, -, -, hr2, -⟩ := hr
  have h3 := (World.ownsRow.lt hr2 b hb).1; have h4 := hD b hd; omega
theorem LinsOwn.lvB {D : Nat → Prop} {B : Nat} {w w' : World} {v : Value} {xs : List Aff} (h : LinsOwn B w v xs) (hv : Lv D w w') (hD : ∀ b, D b → b < B) : LinsOwn B w' v xs := ⟨row_lv h.1 hv (fun b hb hd => by have h3 := (World.ownsRow.lt h.1 b hb).1; have h4 := hD b hd; omega), h.2⟩
theorem KeepC.trans {C : Nat → Prop} {A B D : World} (h : KeepC C A B) (hs : A.heap.size ≤ B.heap.size) (k : KeepC C B D) : KeepC C A D := fun g hc hl => (k g hc (Nat.lt_of_lt_of_le hl hs)).trans (h g hc hl)
theorem Lv.cellAt {D : Nat → Prop} {A B : World} {b o : Nat} {v : Value} (h : Lv D A B) (hc : A.cell? ⟨b, o, none⟩ = some v) (hn : ¬ D b) : B.cell? ⟨b, o, none⟩ = some v :=
 (World.cell?_of_block (a := ⟨b, o, none⟩) (h.block b (World.block_lt_of_cell? _ _ hc) hn)).trans hc
end Go.Proofs.YtklehkkclojccaaGreat
