/- The texts E4, joined. No statement is proved here. -/
import Derived.Test.YtmhldhjpfeageabGreatK44
import Derived.Test.YtmhldhjpfeageabGreatK45
import Derived.Test.YtmhldhjpfeageabGreatK42
/- The machine of a program. No statement is proved here. -/
namespace Go.Proofs.YtmhldhjpfeageabGreat
open Go.RowKit Go.Maps
theorem cloneA_any (p : Option Addr) (n c : Nat) (xs : List Int) (w : World) (hl : xs.length = n) (hs : IntsAt w (.slice p n c) xs) (hn : n ≤ 1048576) :
  Calls Tryz.prog 49 #[.slice p n c] w fun e w' => (∃ p' c', e = .returned (.slice p' n c') ∧ IntsOwn w.heap.size w' (.slice p' n c') xs) ∧ Ext w w' := by
 obtain ⟨hm, hc⟩ := hs.cl
 cases p with
 | some ad =>
  refine (cloneNew_any ad n c xs w hl (fun i x hi => ?_) hn).mono ?_
  ·obtain ⟨b, off, e, hcell⟩ := hc i x hi
   cases e
   have hadd : (⟨b, off, none⟩ : Addr).add i = ⟨b, off + i, none⟩ := by unfold Addr.add; split <;> simp_all
   rw [hadd]
   exact hcell
  ·rintro e w' ⟨g, c', rfl, h1, -, -, h4⟩
   exact ⟨⟨_, _, rfl, h1⟩, h4⟩
 | none =>
  have h0 : n = 0 := by
   rcases Nat.eq_zero_or_pos n with h | h
   ·exact h
   ·obtain ⟨x, hx⟩ := get_some (xs := xs) (k := 0) (by omega)
    obtain ⟨b, off, e, -⟩ := hc 0 x hx
    cases e
  subst h0
  obtain rfl : xs = [] := List.eq_nil_of_length_eq_zero hl
  have hnil : ∀ (w' : World), Sem.run Tryz.prog (binOp .eql 39 (.slice none 0 c) (.slice none 0 0)) w' = .ok (.bool true) w' := by
   intro w'
   have h : ∀ d : Nat, (Op.equalIn (d + 1) 39 (.slice none 0 c) (.slice none 0 0)).run Tryz.prog w' = .ok true w' := fun d => by
    simp [Op.equalIn, run_underlying underSliceInt]
   simp [binOp, Op.equal, Op.maxDepth, h 9999]
  clear hm hc hl hs
  go_enter Tryz.func49, Tryz.ntmps49
  go_wp2
  go_ret
  exact ⟨⟨_, _, rfl, World.ownsRow_nil _ _ _ _⟩, Ext.refl _⟩
def FsL (C : Nat → Prop) (B : Nat) (w1 : World) (mo : Option Nat) (T : Int) (B' : Nat) (W : World) (v : Value) (ps : List Pt) : Prop :=
 ∃ vs, W.ownsRow B' 180 1 v ps.length vs ∧ ∀ (i : Nat) (x : Pt), ps[i]? = some x → ∃ f, vs[i]? = some f ∧ FfL C B w1 mo T B' W f x.2 ∧ ∀ b, f.ownBlock = some b → C b
theorem FsL.nil (C : Nat → Prop) (B : Nat) (w1 : World) (mo : Option Nat) (T : Int) (B' : Nat) (W : World) : FsL C B w1 mo T B' W (.slice none 0 0) [] := ⟨[], World.ownsRow_nil _ _ _ _, fun i s h => by simp at h⟩
theorem FfL.keep {C : Nat → Prop} {B : Nat} {w1 : World} {mo : Option Nat} {T : Int} {B' : Nat} {W W' : World} {v : Value} {ss : List St} (h : FfL C B w1 mo T B' W v ss) (hv : ∀ b, v.ownBlock = some b → C b) (hK : KeepC C W W') : FfL C B w1 mo T B' W' v ss := by
 obtain ⟨vs, h1, h2⟩ := h
 refine ⟨vs, ⟨h1.1, ?_⟩, fun i s hi => by obtain ⟨f, a, b⟩ := h2 i s hi; exact ⟨f, a, b.keep hK⟩⟩
 rcases h1.2 with h | ⟨g, cap, cur, rfl, hge, hg, hr⟩
 ·exact .inl h
 ·exact .inr ⟨g, cap, cur, rfl, hge, hK.blk (hv g rfl) hg, hr⟩
theorem FfL.weak {C : Nat → Prop} {B : Nat} {w1 : World} {mo : Option Nat} {T : Int} {B' B2 : Nat} {W : World} {v : Value} {ss : List St} (h : FfL C B w1 mo T B' W v ss) (hB : B2 ≤ B') : FfL C B w1 mo T B2 W v ss := by
 obtain ⟨vs, h1, h2⟩ := h
 exact ⟨vs, ownsRow_weak h1 hB, h2⟩
theorem FfL.own {C : Nat → Prop} {B : Nat} {w1 : World} {mo : Option Nat} {T : Int} {B' : Nat} {W : World} {v : Value} {ss : List St} (h : FfL C B w1 mo T B' W v ss) : ∀ b, v.ownBlock = some b → B' ≤ b ∧ b < W.heap.size := by
 obtain ⟨vs, h1, -⟩ := h
 exact own_ge2 h1
theorem FsL.push {C C1 C2 : Nat → Prop} {B : Nat} {w1 : World} {mo : Option Nat} {T : Int} {B' k : Nat} {W W3 W5 : World} {v' f : Value} {ps : List Pt} {s : Pt} {vs : List Value} (hk : ps.length = k) (hvl : vs.length = k)
  (he : ∀ (i : Nat) (x : Pt), ps[i]? = some x → ∃ f, vs[i]? = some f ∧ FfL C B w1 mo T B' W f x.2 ∧ ∀ b, f.ownBlock = some b → C b)
  (hK : KeepC C W W5) (hf : FfL C1 B w1 mo T B' W3 f s.2) (hfo : ∀ b, f.ownBlock = some b → C1 b) (hK1 : KeepC C1 W3 W5) (h1 : ∀ g, C g → C2 g) (h2 : ∀ g, C1 g → C2 g) (ho : W5.ownsRow B' 180 1 v' (k + 1) (vs ++ [f])) : FsL C2 B w1 mo T B' W5 v' (ps ++ [s]) := by
 refine ⟨vs ++ [f], by rw [List.length_append, hk]; exact ho, fun i x hi => ?_⟩
 rcases Nat.lt_or_ge i k with hlt | hge
 ·rw [List.getElem?_append_left (by omega)] at hi
  obtain ⟨f0, a, b, c⟩ := he i x hi
  exact ⟨f0, by rw [List.getElem?_append_left (by omega)]; exact a, (b.keep c hK).mono h1, fun g hg => h1 g (c g hg)⟩
 ·rw [List.getElem?_append_right (by omega)] at hi
  have hi0 : i = k := by
   rcases Nat.eq_or_lt_of_le hge with h | h
   ·exact h.symm
   ·rw [List.getElem?_eq_none (by simp; omega)] at hi; cases hi
  subst hi0
  rw [hk, Nat.sub_self] at hi
  simp at hi
  subst hi
  exact ⟨f, by rw [List.getElem?_append_right (by omega)]; simp [hvl], (hf.keep hfo hK1).mono h2, fun g hg => h2 g (hfo g hg)⟩
theorem FsL.keep {C : Nat → Prop} {B : Nat} {w1 : World} {mo : Option Nat} {T : Int} {B' : Nat} {W W' : World} {v : Value} {ps : List Pt} (h : FsL C B w1 mo T B' W v ps) (hK : KeepC C W W') (hv : ∀ b, v.ownBlock = some b → W'.heap[b]? = W.heap[b]?) : FsL C B w1 mo T B' W' v ps := by
 obtain ⟨vs, h1, h2⟩ := h
 refine ⟨vs, ⟨h1.1, ?_⟩, fun i s hi => by obtain ⟨f, a, b, c⟩ := h2 i s hi; exact ⟨f, a, b.keep c hK, c⟩⟩
 rcases h1.2 with h | ⟨g, cap, cur, rfl, hge, hg, hr⟩
 ·exact .inl h
 ·exact .inr ⟨g, cap, cur, rfl, hge, (hv g rfl).trans hg, hr⟩
theorem FsL.mono {C C2 : Nat → Prop} {B : Nat} {w1 : World} {mo : Option Nat} {T : Int} {B' : Nat} {W : World} {v : Value} {ps : List Pt} (h : FsL C B w1 mo T B' W v ps) (hC : ∀ g, C g → C2 g) : FsL C2 B w1 mo T B' W v ps := by
 obtain ⟨vs, h1, h2⟩ := h
 exact ⟨vs, h1, fun i s hi => by obtain ⟨f, a, b, c⟩ := h2 i s hi; exact ⟨f, a, b.mono hC, fun g hg => hC g (c g hg)⟩⟩
def MachR (L : Nat) (W : World) (v : Value) (ars : List Arr) (ps : List Pt) (xs : List Int) : Prop :=
 ∃ (Z : World) (B M0 Lo Bm : Nat) (D : DataW Value) (q1 : Option Addr) (c1 : Nat) (q2 : Option Addr) (c2 : Nat) (pm : Option Addr) (cm : Nat) (pf : Option Addr) (cf : Nat),
  v = .agg #[.map (some Bm), .int .i64 (totN ars), .slice q1 ps.length c1, .slice q2 (evsOf ars ps).length c2, .slice pm xs.length cm, .slice pf ps.length cf] ∧
  Z.ownsMap Tryz.prog 9 rawE Bm 4 D ∧ MapIs Z D ars ∧ EvsOwn B Z (.slice q2 (evsOf ars ps).length c2) (evsOf ars ps) ∧ Ext Z W ∧ L ≤ M0 ∧ Z.heap.size ≤ M0 ∧
  IntsOwn M0 W (.slice pm xs.length cm) xs ∧ (∀ b, (Value.slice pm xs.length cm).ownBlock = some b → b < Lo) ∧
  FsL (fun g => Lo ≤ g) B Z (some Bm) (totN ars) Lo W (.slice pf ps.length cf) ps
theorem underFs2 : Tryz.prog.underlying 104 = some (.slice 180) := by kernel_rfl
theorem blk4' {W : World} {g : Nat} {a b c d : Value} {t : TypeId} (h : W.heap[g]? = some (.cells #[a, b, c, d] t (0, 0))) : W.cell? ⟨g, 0, none⟩ = some a ∧ W.cell? ⟨g, 1, none⟩ = some b ∧ W.cell? ⟨g, 2, none⟩ = some c ∧ W.cell? ⟨g, 3, none⟩ = some d ∧ ∀ j, W.frozen? ⟨g, j, none⟩ = false := by
 simp [World.cell?, World.frozen?, h]
theorem blk6 {W : World} {g : Nat} {a b c d e f : Value} {t : TypeId} (h : W.heap[g]? = some (.cells #[a, b, c, d, e, f] t (0, 0))) : W.cell? ⟨g, 0, none⟩ = some a ∧ W.cell? ⟨g, 1, none⟩ = some b ∧ W.cell? ⟨g, 2, none⟩ = some c ∧ W.cell? ⟨g, 3, none⟩ = some d ∧ W.cell? ⟨g, 4, none⟩ = some e ∧ W.cell? ⟨g, 5, none⟩ = some f ∧ ∀ j, W.frozen? ⟨g, j, none⟩ = false := by
 simp [World.cell?, World.frozen?, h]
theorem blk6_set {W : World} {g : Nat} {a b c d e f a' b' c' d' e' f' : Value} {t : TypeId} (h : W.heap[g]? = some (.cells #[a, b, c, d, e, f] t (0, 0))) :
  ((((((W.setCell ⟨g, 0, none⟩ a').setCell ⟨g, 1, none⟩ b').setCell ⟨g, 2, none⟩ c').setCell ⟨g, 3, none⟩ d').setCell ⟨g, 4, none⟩ e').setCell ⟨g, 5, none⟩ f').heap[g]? = some (.cells #[a', b', c', d', e', f'] t (0, 0)) := by
 have h1 := heap_setCell_same W g 0 _ t a' h
 have h2 := heap_setCell_same _ g 1 _ t b' h1
 have h3 := heap_setCell_same _ g 2 _ t c' h2
 have h4 := heap_setCell_same _ g 3 _ t d' h3
 have h5 := heap_setCell_same _ g 4 _ t e' h4
 have h6 := heap_setCell_same _ g 5 _ t f' h5
 simpa using h6
theorem lv_set6 (W : World) (g : Nat) (a b c d e f : Value) : Lv (fun k => k = g) W ((((((W.setCell ⟨g, 0, none⟩ a).setCell ⟨g, 1, none⟩ b).setCell ⟨g, 2, none⟩ c).setCell ⟨g, 3, none⟩ d).setCell ⟨g, 4, none⟩ e).setCell ⟨g, 5, none⟩ f) :=
 ((lv_set4 W g a b c d).trans (lv_set _ g 4 e) (fun _ _ h => h) (fun _ _ h => h)).trans (lv_set _ g 5 f) (fun _ _ h => h) (fun _ _ h => h)
theorem ext_set6 {w W : World} (h : Ext w W) {g : Nat} (hg : w.heap.size ≤ g) (a b c d e f : Value) : Ext w ((((((W.setCell ⟨g, 0, none⟩ a).setCell ⟨g, 1, none⟩ b).setCell ⟨g, 2, none⟩ c).setCell ⟨g, 3, none⟩ d).setCell ⟨g, 4, none⟩ e).setCell ⟨g, 5, none⟩ f) :=
 (((((h.setAt hg a).setAt hg b).setAt hg c).setAt hg d).setAt hg e).setAt hg f
theorem ext_both6 {A W : World} {r : Nat} {a b c d e f : Value} {t : TypeId} (hE : Ext A W) (hA : A.heap[r]? = some (.cells #[a, b, c, d, e, f] t (0, 0))) (a' b' c' d' e' f' : Value) :
  Ext ((((((A.setCell ⟨r, 0, none⟩ a').setCell ⟨r, 1, none⟩ b').setCell ⟨r, 2, none⟩ c').setCell ⟨r, 3, none⟩ d').setCell ⟨r, 4, none⟩ e').setCell ⟨r, 5, none⟩ f')
   ((((((W.setCell ⟨r, 0, none⟩ a').setCell ⟨r, 1, none⟩ b').setCell ⟨r, 2, none⟩ c').setCell ⟨r, 3, none⟩ d').setCell ⟨r, 4, none⟩ e').setCell ⟨r, 5, none⟩ f') := by
 have hW := hE.blk hA
 have l1 := lv_set6 A r a' b' c' d' e' f'
 have l2 := lv_set6 W r a' b' c' d' e' f'
 refine ⟨l2.os.trans (hE.os.trans l1.os.symm), l2.tape.trans (hE.tape.trans l1.tape.symm), l2.output.trans (hE.output.trans l1.output.symm), by simpa using hE.size, fun i hi => ?_⟩
 have hi' : i < A.heap.size := by simpa using hi
 by_cases h : i = r
 ·subst h; rw [blk6_set hW, blk6_set hA]
 ·exact (l2.block i (Nat.lt_of_lt_of_le hi' hE.size) h).trans ((hE.block i hi').trans (l1.block i hi' h).symm)
theorem EvsOwn.lvB {D : Nat → Prop} {B : Nat} {w w' : World} {v : Value} {es : List Ev} (h : EvsOwn B w v es) (hv : Lv D w w') (hD : ∀ b, D b → b < B) : EvsOwn B w' v es := by
 obtain ⟨vs, h1, h2⟩ := h
 refine ⟨vs, row_lv h1 hv (fun b hb hd => by have h3 := (World.ownsRow.lt h1 b hb).1; have h4 := hD b hd; omega), fun i x hi => ?_⟩
 obtain ⟨u0, u1, u2, u3, u4, a0, a1, a2, a3, a4, hr⟩ := h2 i x hi
 refine ⟨u0, u1, u2, u3, u4, a0, a1, a2, a3, a4, hr.lv hv (fun b hb hd => ?_) (fun b hb hd => ?_)⟩
 ·obtain ⟨-, -, ⟨g, c, e, hi2⟩, -, -⟩ := hr
  have h3 := (World.ownsRow.lt hi2 b hb).1; have h4 := hD b hd; omega
 ·obtain ⟨-, -, -, hr2, -⟩ := hr
  have h3 := (World.ownsRow.lt hr2 b hb).1; have h4 := hD b hd; omega
theorem LinsOwn.lvB {D : Nat → Prop} {B : Nat} {w w' : World} {v : Value} {xs : List Aff} (h : LinsOwn B w v xs) (hv : Lv D w w') (hD : ∀ b, D b → b < B) : LinsOwn B w' v xs := ⟨row_lv h.1 hv (fun b hb hd => by have h3 := (World.ownsRow.lt h.1 b hb).1; have h4 := hD b hd; omega), h.2⟩
theorem FnR.stat {C : Nat → Prop} {B : Nat} {w1 w2 : World} {mo : Option Nat} {T : Int} {W : World} {f : Value} {e : Ex} (h : FnR C B w1 mo T W f e) (hs : ∀ s subs, LinsOwn B w1 s subs → LinsOwn B w2 s subs) : FnR C B w2 mo T W f e := by
 induction h with
 | num n g c0 hg => exact .num n g c0 hg
 | idx a b c d k h g c0 hg => exact .idx a b c d k h g c0 hg
 | read arr s subs h gl gr c0 c1 hl hr => exact .read arr s subs (hs _ _ h) gl gr c0 c1 hl hr
 | op kind fx fy ex ey hk ga gx gy c0 c1 c2 ha hx hy _ _ ihx ihy => exact .op kind fx fy ex ey hk ga gx gy c0 c1 c2 ha hx hy ihx ihy
theorem FsL.stat {C : Nat → Prop} {B : Nat} {w1 w2 : World} {mo : Option Nat} {T : Int} {B' : Nat} {W : World} {v : Value} {ps : List Pt} (h : FsL C B w1 mo T B' W v ps) (hs : ∀ s subs, LinsOwn B w1 s subs → LinsOwn B w2 s subs) : FsL C B w2 mo T B' W v ps := by
 obtain ⟨vs, h1, h2⟩ := h
 refine ⟨vs, h1, fun i x hi => ?_⟩
 obtain ⟨f, a, ⟨us, b1, b2⟩, c⟩ := h2 i x hi
 exact ⟨f, a, ⟨us, b1, fun j s hj => by obtain ⟨f2, d1, d2⟩ := b2 j s hj; exact ⟨f2, d1, d2.stat hs⟩⟩, c⟩
theorem MapIs.move {W0 X : World} {D : DataW Value} {ars : List Arr} (h : MapIs W0 D ars) (ho : ∀ a ∈ ars, arrOkB a = true) (hb : ∀ b o (x : Int), 1 ≤ x → W0.cell? ⟨b, o, none⟩ = some (.int .i64 x) → X.cell? ⟨b, o, none⟩ = some (.int .i64 x)) : MapIs X D ars := fun nm => by
 obtain ⟨h1, h2⟩ := h nm
 refine ⟨h1, fun f ds hp => ?_⟩
 obtain ⟨h3, q, c, h4, p, c', e, hm, h5⟩ := h2 f ds hp
 obtain ⟨⟨-, hpos⟩, -⟩ := placeOf_bd ho hp
 exact ⟨h3, q, c, h4, p, c', e, hm, fun i x hi => by
  obtain ⟨b, off, e1, e2⟩ := h5 i x hi
  exact ⟨b, off, e1, hb b _ x (hpos x (List.mem_of_getElem? hi)).1 e2⟩⟩
theorem KeepC.trans {C : Nat → Prop} {A B D : World} (h : KeepC C A B) (hs : A.heap.size ≤ B.heap.size) (k : KeepC C B D) : KeepC C A D := fun g hc hl => (k g hc (Nat.lt_of_lt_of_le hl hs)).trans (h g hc hl)
theorem keepC_setO {C : Nat → Prop} {X : World} {g o : Nat} (hg : ¬ C g) (u : Value) : KeepC C X (X.setCell ⟨g, o, none⟩ u) := fun k hk _ => Below.heap_setCell _ _ _ _ (fun e => hg (by have e' : k = g := e; rw [← e']; exact hk))
theorem blk6_set5 {W : World} {g : Nat} {a b c d e f f' : Value} {t : TypeId} (h : W.heap[g]? = some (.cells #[a, b, c, d, e, f] t (0, 0))) : (W.setCell ⟨g, 5, none⟩ f').heap[g]? = some (.cells #[a, b, c, d, e, f'] t (0, 0)) := by
 have h1 := heap_setCell_same W g 5 _ t f' h
 simpa using h1
theorem mach_step {C C1 : Nat → Prop} {B : Nat} {w1 : World} {mo : Option Nat} {T : Int} {Lo : Nat} {wr w3 w5 wc : World} {k g8 nb d cf d5 : Nat} {p pf p5 : Option Addr} {o1 : Obj} {x : Pt} {ps0 : List Pt} {vs : List Value} {a b c d' e f0 : Value}
  (hL : Lv (fun b => b = g8) wc wr) (hwc : wc.heap.size = Lo) (hg8 : g8 < Lo) (G5 : w5.heap[g8]? = some (.cells #[a, b, c, d', e, f0] 106 (0, 0)))
  (hc1 : ∀ g, C g → Lo ≤ g ∧ g < wr.heap.size) (hc2 : ∀ b, (Value.slice p k d).ownBlock = some b → ¬ C b) (ho : wr.ownsRow Lo 180 1 (.slice p k d) k vs) (hvl : vs.length = k) (htl : ps0.length = k)
  (he : ∀ (i : Nat) (x : Pt), ps0[i]? = some x → ∃ f, vs[i]? = some f ∧ FfL C B w1 mo T Lo wr f x.2 ∧ ∀ (b : Nat), f.ownBlock = some b → C b) (XE : Ext wr w3) (hf0 : FfL C1 B w1 mo T (wr.alloc o1).drew.heap.size w3 (.slice pf nb cf) x.2)
  (hC1 : ∀ g, C1 g → (wr.alloc o1).drew.heap.size ≤ g ∧ g < w3.heap.size) (hgr : (w3.alloc (.cells #[.slice pf nb cf] 180)).grownBy w5 (Value.slice p k d).ownBlock)
  (hown : w5.ownsRow Lo 180 1 (.slice p5 (k + 1) d5) (k + 1) (vs ++ [.slice pf nb cf])) (hat : (Value.slice p5 (k + 1) d5).ownBlock = (Value.slice p k d).ownBlock ∨ (Value.slice p5 (k + 1) d5).ownBlock = some (w3.alloc (.cells #[.slice pf nb cf] 180)).heap.size) :
  ∃ C2 : Nat → Prop, (w5.setCell ⟨g8, 5, none⟩ (.slice p5 (k + 1) d5)).heap[g8]? = some (.cells #[a, b, c, d', e, .slice p5 (k + 1) d5] 106 (0, 0)) ∧ FsL C2 B w1 mo T Lo (w5.setCell ⟨g8, 5, none⟩ (.slice p5 (k + 1) d5)) (.slice p5 (k + 1) d5) (ps0 ++ [x]) ∧
   (∀ g, C2 g → Lo ≤ g ∧ g < (w5.setCell ⟨g8, 5, none⟩ (.slice p5 (k + 1) d5)).heap.size) ∧ (∀ b, (Value.slice p5 (k + 1) d5).ownBlock = some b → ¬ C2 b) ∧ Lv (fun b => b = g8) wc (w5.setCell ⟨g8, 5, none⟩ (.slice p5 (k + 1) d5)) := by
 have hs1 := XE.size_le
 have hs0 := hL.size
 have hs5 : w3.heap.size + 1 ≤ w5.heap.size := by have := hgr.size; simpa using this
 simp only [World.size_drew, World.size_alloc] at hf0 hC1
 have hf : FfL (fun g => wr.heap.size + 1 ≤ g ∧ g < w3.heap.size) B w1 mo T Lo w3 (.slice pf nb cf) x.2 := (hf0.mono hC1).weak (by omega)
 have hfo : ∀ b, (Value.slice pf nb cf).ownBlock = some b → wr.heap.size + 1 ≤ b ∧ b < w3.heap.size := hf0.own
 have hob := own_ge2 ho
 have hob5 := own_ge2 hown
 have hk1 : KeepC C wr w5 := keepC_grown (XE.alloc _) hgr hc2
 have hk2 : KeepC (fun g => wr.heap.size + 1 ≤ g ∧ g < w3.heap.size) w3 w5 := keepC_grown ((Ext.refl w3).alloc _) hgr (fun b hb h => by have := (hob b hb).2; omega)
 have hp := FsL.push (C2 := fun g => C g ∨ (wr.heap.size + 1 ≤ g ∧ g < w3.heap.size)) htl hvl he hk1 hf hfo hk2 (fun g h => .inl h) (fun g h => .inr h) hown
 have hn8 : ¬ (C g8 ∨ (wr.heap.size + 1 ≤ g8 ∧ g8 < w3.heap.size)) := fun h => by
  rcases h with h | h
  ·have := (hc1 g8 h).1; omega
  ·omega
 refine ⟨_, blk6_set5 G5, hp.keep (keepC_setO hn8 _) (fun b hb => Below.heap_setCell _ _ _ _ (fun e => by have e' : b = g8 := e; have := (hob5 b hb).1; omega)), fun g h => ?_, fun b hb h => ?_, ?_⟩
 ·rw [World.size_setCell]
  rcases h with h | h
  ·have := hc1 g h; omega
  ·omega
 ·rcases hat with e | e
  ·rw [e] at hb
   rcases h with h | h
   ·exact hc2 b hb h
   ·have := (hob b hb).2; omega
  ·rw [e] at hb
   simp at hb
   rcases h with h | h
   ·have := (hc1 b h).2; omega
   ·omega
 ·refine ((hL.trans (Ext.lv (D := fun _ => False) (XE.alloc (.cells #[.slice pf nb cf] 180))) (E := fun b => b = g8) (fun _ _ h => h) (fun _ _ h => h.elim)).trans (Lv.grown (D := fun b => Lo ≤ b) hgr (fun r hr _ => (hob r hr).1)) (E := fun b => b = g8) (fun _ _ h => h) (fun b hb h => ?_)).trans (lv_set w5 g8 5 _) (fun _ _ h => h) (fun _ _ h => h)
  omega
theorem Lv.cellAt {D : Nat → Prop} {A B : World} {b o : Nat} {v : Value} (h : Lv D A B) (hc : A.cell? ⟨b, o, none⟩ = some v) (hn : ¬ D b) : B.cell? ⟨b, o, none⟩ = some v :=
 (World.cell?_of_block (a := ⟨b, o, none⟩) (h.block b (World.block_lt_of_cell? _ _ hc) hn)).trans hc
theorem Lv.grownAt {A B : World} {g : Nat} (h : Lv (fun k => k = g) A B) : A.grownBy B (some g) := ⟨h.os, h.tape, h.output, h.size, fun i hi hne => h.block i hi (fun e => hne (by rw [e]))⟩
theorem zero6_no {W : World} {r b o : Nat} {x : Int} (h : W.heap[r]? = some (.cells #[.map none, .int .i64 0, .slice none 0 0, .slice none 0 0, .slice none 0 0, .slice none 0 0] 106 (0, 0))) (hx : 1 ≤ x) (hc : W.cell? ⟨b, o, none⟩ = some (.int .i64 x)) : b ≠ r := by
 rintro rfl
 obtain ⟨c0, c1, c2, c3, c4, c5, -⟩ := blk6 h
 match o with
 | 0 => rw [c0] at hc; cases hc
 | 1 => rw [c1] at hc; cases hc; omega
 | 2 => rw [c2] at hc; cases hc
 | 3 => rw [c3] at hc; cases hc
 | 4 => rw [c4] at hc; cases hc
 | 5 => rw [c5] at hc; cases hc
 | n + 6 => simp [World.cell?, h] at hc
theorem machR_out {w W0 w1 w2 wc wr : World} {Bm T' : Nat} {D : DataW Value} {T : Int} {q1 q2 p4 p : Option Addr} {m c1 ne c2 n d4 d g8 Lo r : Nat} {C : Nat → Prop} {ars : List Arr} {ps : List Pt} {xs : List Int} {K : Nat}
  (h0 : W0.heap.size = T') (hr : r < T') (hwr : w.heap.size ≤ r) (R0 : W0.heap[r]? = some (.cells #[.map none, .int .i64 0, .slice none 0 0, .slice none 0 0, .slice none 0 0, .slice none 0 0] 106 (0, 0))) (E01 : Ext W0 w1) (hpb : progB ars ps = true) (hB : W0.heap.size ≤ Bm)
  (hom : w1.ownsMap Tryz.prog 9 rawE Bm 4 D) (hmi : MapIs W0 D ars) (hev : EvsOwn W0.heap.size w1 (.slice q2 ne c2) (evsOf ars ps)) (hT : totN ars = T) (hm : ps.length = m) (hne : (evsOf ars ps).length = ne) (hn : xs.length = n)
  (X12 : Ext w1 w2) (X24 : Ext w2 wc) (hLo : wc.heap.size = Lo) (hL : Lv (fun b => b = g8) wc wr) (hg8 : w2.heap.size ≤ g8) (h4 : IntsOwn w2.heap.size wc (.slice p4 n d4) xs) (hn8 : ∀ b, (Value.slice p4 n d4).ownBlock = some b → b ≠ g8)
  (hff : FsL C W0.heap.size w1 (some Bm) T Lo wr (.slice p m d) ps) (hC : ∀ g, C g → Lo ≤ g ∧ g < wr.heap.size) (hK : K = T' ) :
  MachR w.heap.size ((((((wr.setCell ⟨r, 0, none⟩ (.map (some Bm))).setCell ⟨r, 1, none⟩ (.int .i64 T)).setCell ⟨r, 2, none⟩ (.slice q1 m c1)).setCell ⟨r, 3, none⟩ (.slice q2 ne c2)).setCell ⟨r, 4, none⟩ (.slice p4 n d4)).setCell ⟨r, 5, none⟩ (.slice p m d))
   (.agg #[.map (some Bm), .int .i64 T, .slice q1 m c1, .slice q2 ne c2, .slice p4 n d4, .slice p m d]) ars ps xs := by
 have hok : ∀ a ∈ ars, arrOkB a = true := by have h := progB_arrs hpb; simp only [arrsB, Bool.and_eq_true, List.all_eq_true] at h; exact h.1
 have R1 := E01.blk R0
 have hs01 := E01.size_le
 have hs12 := X12.size_le
 have hs24 := X24.size_le
 have EW : Ext w1 wr := Lv.ext0 hL (X12.trans X24) (fun b hb => by omega)
 have hl := lv_set6 w1 r (.map (some Bm)) (.int .i64 T) (.slice q1 m c1) (.slice q2 ne c2) (.slice p4 n d4) (.slice p m d)
 have hl2 := lv_set6 wr r (.map (some Bm)) (.int .i64 T) (.slice q1 m c1) (.slice q2 ne c2) (.slice p4 n d4) (.slice p m d)
 have hx6 := ext_both6 EW R1 (.map (some Bm)) (.int .i64 T) (.slice q1 m c1) (.slice q2 ne c2) (.slice p4 n d4) (.slice p m d)
 have hsz : ((((((w1.setCell ⟨r, 0, none⟩ (.map (some Bm))).setCell ⟨r, 1, none⟩ (.int .i64 T)).setCell ⟨r, 2, none⟩ (.slice q1 m c1)).setCell ⟨r, 3, none⟩ (.slice q2 ne c2)).setCell ⟨r, 4, none⟩ (.slice p4 n d4)).setCell ⟨r, 5, none⟩ (.slice p m d)).heap.size = w1.heap.size := by simp
 generalize ((((((w1.setCell ⟨r, 0, none⟩ (.map (some Bm))).setCell ⟨r, 1, none⟩ (.int .i64 T)).setCell ⟨r, 2, none⟩ (.slice q1 m c1)).setCell ⟨r, 3, none⟩ (.slice q2 ne c2)).setCell ⟨r, 4, none⟩ (.slice p4 n d4)).setCell ⟨r, 5, none⟩ (.slice p m d)) = Z at *
 generalize ((((((wr.setCell ⟨r, 0, none⟩ (.map (some Bm))).setCell ⟨r, 1, none⟩ (.int .i64 T)).setCell ⟨r, 2, none⟩ (.slice q1 m c1)).setCell ⟨r, 3, none⟩ (.slice q2 ne c2)).setCell ⟨r, 4, none⟩ (.slice p4 n d4)).setCell ⟨r, 5, none⟩ (.slice p m d)) = X at *
 have hom2 : Z.ownsMap Tryz.prog 9 rawE Bm 4 D := hom.kept hl.grownAt (by simp; omega)
 have hmi2 : MapIs Z D ars := hmi.move hok (fun b o x hx hc => hl.cellAt (E01.keep hc) (zero6_no R0 hx hc))
 have hev2 := hev.lvB hl (fun b hb => by omega)
 refine ⟨Z, W0.heap.size, w2.heap.size, Lo, Bm, D, q1, c1, q2, c2, p4, d4, p, d, ?_, hom2, hmi2, ?_, hx6, by omega, by omega, ?_, ?_, ?_⟩
 ·rw [hT, hm, hne, hn]
 ·rw [hne]; exact hev2
 ·rw [hn]
  exact IntsOwn.lvB (row_lv h4 hL hn8) hl2 (fun b hb => by omega)
 ·intro b hb
  rw [hn] at hb
  have := h4.block_lt b hb
  omega
 ·rw [hm, hT]
  refine (FsL.mono (hff.keep (fun g hc hg => hl2.block g hg (fun e => by have := (hC g hc).1; omega)) (fun b hb => ?_)) (fun g hg => (hC g hg).1)).stat (fun s subs h => h.lvB hl (fun b hb => by omega))
  obtain ⟨vs, ho, -⟩ := hff
  have := own_ge2 ho b hb
  exact hl2.block b this.2 (fun e => by omega)
end Go.Proofs.YtmhldhjpfeageabGreat
