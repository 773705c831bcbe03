/- The texts E3 E4 E5, joined. No statement is proved here. -/
import Derived.Test.YtklehkkclojccaaGreatK46
import Derived.Test.YtklehkkclojccaaGreatK21
import Derived.Test.YtklehkkclojccaaGreatK09
import Derived.Test.YtklehkkclojccaaGreatK53
/- The formulas of a body and of a machine. No statement is proved here. -/
namespace Go.Proofs.YtklehkkclojccaaGreat
open Go.RowKit Go.Maps
theorem StmsOwn.at3 {B n c i : Nat} {w : World} {p : Option Addr} {ss : List St} {s : St} (h : StmsOwn B w (.slice p n c) ss) (hn : ss.length = n) (hi : ss[i]? = some s) :
  ∃ g u0 u1 u2, p = some ⟨g, 0, none⟩ ∧ g < w.heap.size ∧ w.cell? ⟨g, i * 3, none⟩ = some u0 ∧ w.cell? ⟨g, i * 3 + 1, none⟩ = some u1 ∧ w.cell? ⟨g, i * 3 + 2, none⟩ = some u2 ∧ StmR B w u0 u1 u2 s := by
 obtain ⟨vs, ho, he⟩ := h
 obtain ⟨u0, u1, u2, h0, h1, h2, hr⟩ := he i s hi
 have ho2 := ho.2
 rcases ho2 with ⟨e, hz⟩ | ⟨g, cap, cur, e, _, hg, _⟩
 ·have := (List.getElem?_eq_some_iff.1 hi).1; omega
 ·cases e
  have hc : ∀ j u, vs[j]? = some u → w.cell? ⟨g, j, none⟩ = some u := fun j u hu => by
   have h := World.ownsRow.cells ho (g := g) rfl j u hu
   have hadd : (⟨g, 0, none⟩ : Addr).add j = ⟨g, j, none⟩ := by unfold Addr.add; split <;> simp_all
   rw [hadd] at h
   exact h
  exact ⟨g, u0, u1, u2, rfl, lt_of_block hg, hc _ _ h0, hc _ _ h1, hc _ _ h2, hr⟩
theorem PartsOwn.at2 {B n c i : Nat} {w : World} {p : Option Addr} {ps : List Pt} {x : Pt} (h : PartsOwn B w (.slice p n c) ps) (hn : ps.length = n) (hi : ps[i]? = some x) :
  ∃ g u0 u1, p = some ⟨g, 0, none⟩ ∧ g < w.heap.size ∧ w.cell? ⟨g, i * 2, none⟩ = some u0 ∧ w.cell? ⟨g, i * 2 + 1, none⟩ = some u1 ∧ PartP B w u0 u1 x := by
 obtain ⟨vs, ho, he⟩ := h
 obtain ⟨u0, u1, h0, h1, hr⟩ := he i x hi
 have ho2 := ho.2
 rcases ho2 with ⟨e, hz⟩ | ⟨g, cap, cur, e, _, hg, _⟩
 ·have := (List.getElem?_eq_some_iff.1 hi).1; omega
 ·cases e
  have hc : ∀ j u, vs[j]? = some u → w.cell? ⟨g, j, none⟩ = some u := fun j u hu => by
   have h := World.ownsRow.cells ho (g := g) rfl j u hu
   have hadd : (⟨g, 0, none⟩ : Addr).add j = ⟨g, j, none⟩ := by unfold Addr.add; split <;> simp_all
   rw [hadd] at h
   exact h
  exact ⟨g, u0, u1, rfl, lt_of_block hg, hc _ _ h0, hc _ _ h1, hr⟩
theorem infoFor : (Tryz.prog.info? 264).map (fun i => (i.zero, i.size, i.bytes)) = some (some (.nilFunc), 1, 8) := by kernel_rfl
theorem underFor : Tryz.prog.underlying 186 = some (.slice 264) := by kernel_rfl
theorem infoFs : (Tryz.prog.info? 186).map (fun i => (i.zero, i.size, i.bytes)) = some (some (.slice none 0 0), 1, 24) := by kernel_rfl
def FfL (C : Nat → Prop) (B : Nat) (w1 : World) (mo : Option Nat) (T : Int) (B' : Nat) (W : World) (v : Value) (ss : List St) : Prop :=
 ∃ vs, W.ownsRow B' 264 1 v ss.length vs ∧ ∀ (i : Nat) (s : St), ss[i]? = some s → ∃ f, vs[i]? = some f ∧ FnR C B w1 mo T W f s.2.2
theorem FfL.nil (C : Nat → Prop) (B : Nat) (w1 : World) (mo : Option Nat) (T : Int) (B' : Nat) (W : World) : FfL C B w1 mo T B' W (.slice none 0 0) [] := ⟨[], World.ownsRow_nil _ _ _ _, fun i s h => by simp at h⟩
theorem FfL.ext {C : Nat → Prop} {B : Nat} {w1 : World} {mo : Option Nat} {T : Int} {B' : Nat} {W W' : World} {v : Value} {ss : List St} (h : FfL C B w1 mo T B' W v ss) (hE : Ext W W') : FfL C B w1 mo T B' W' v ss := by
 obtain ⟨vs, h1, h2⟩ := h
 exact ⟨vs, ownsRow_ext h1 hE, fun i s hi => by obtain ⟨f, a, b⟩ := h2 i s hi; exact ⟨f, a, b.ext hE⟩⟩
theorem FfL.form {C : Nat → Prop} {B : Nat} {w1 : World} {mo : Option Nat} {T : Int} {B' : Nat} {W : World} {v : Value} {ss : List St} (h : FfL C B w1 mo T B' W v ss) : ∃ p c, v = .slice p ss.length c := by
 obtain ⟨vs, ho, _⟩ := h
 rcases ho.2 with ⟨rfl, hn⟩ | ⟨g, cap, cur, rfl, _⟩
 ·exact ⟨none, 0, by rw [hn]⟩
 ·exact ⟨_, _, rfl⟩
theorem keepC_grown {C : Nat → Prop} {W W1 W2 : World} {r : Option Nat} (hE : Ext W W1) (hg : W1.grownBy W2 r) (hr : ∀ b, r = some b → ¬ C b) : KeepC C W W2 := fun g hc hl => (hg.block g (Nat.lt_of_lt_of_le hl hE.size_le) (fun e => hr g e.symm hc)).trans (hE.block g hl)
theorem FfL.push {C C1 C2 : Nat → Prop} {B : Nat} {w1 : World} {mo : Option Nat} {T : Int} {B' k : Nat} {W W3 W5 : World} {v' f : Value} {ss : List St} {s : St} {vs : List Value} (hk : ss.length = k) (hvl : vs.length = k) (he : ∀ (i : Nat) (s : St), ss[i]? = some s → ∃ f, vs[i]? = some f ∧ FnR C B w1 mo T W f s.2.2)
  (hK : KeepC C W W5) (hf : FnR C1 B w1 mo T W3 f s.2.2) (hK1 : KeepC C1 W3 W5) (h1 : ∀ g, C g → C2 g) (h2 : ∀ g, C1 g → C2 g) (ho : W5.ownsRow B' 264 1 v' (k + 1) (vs ++ [f])) : FfL C2 B w1 mo T B' W5 v' (ss ++ [s]) := by
 refine ⟨vs ++ [f], by rw [List.length_append, hk]; exact ho, fun i x hi => ?_⟩
 rcases Nat.lt_or_ge i k with hlt | hge
 ·rw [List.getElem?_append_left (by omega)] at hi
  obtain ⟨f0, a, b⟩ := he i x hi
  exact ⟨f0, by rw [List.getElem?_append_left (by omega)]; exact a, (b.keep hK).mono h1⟩
 ·rw [List.getElem?_append_right (by omega)] at hi
  have hi0 : i = k := by
   rcases Nat.eq_or_lt_of_le hge with h | h
   ·exact h.symm
   ·rw [List.getElem?_eq_none (by simp; omega)] at hi; cases hi
  subst hi0
  rw [hk, Nat.sub_self] at hi
  simp at hi
  subst hi
  exact ⟨f, by rw [List.getElem?_append_right (by omega)]; simp [hvl], (hf.keep hK1).mono h2⟩
theorem FfL.mono {C C2 : Nat → Prop} {B : Nat} {w1 : World} {mo : Option Nat} {T : Int} {B' : Nat} {W : World} {v : Value} {ss : List St} (h : FfL C B w1 mo T B' W v ss) (hC : ∀ g, C g → C2 g) : FfL C2 B w1 mo T B' W v ss := by
 obtain ⟨vs, h1, h2⟩ := h
 exact ⟨vs, h1, fun i s hi => by obtain ⟨f, a, b⟩ := h2 i s hi; exact ⟨f, a, b.mono hC⟩⟩
theorem own_form2 {w : World} {B k : Nat} {t : TypeId} {v : Value} {xs : List Value} (h : w.ownsRow B t 1 v (k + 1) xs) : ∃ p c, v = .slice p (k + 1) c := by
 rcases h.2 with ⟨-, hn0⟩ | ⟨g, cap, cur, e, _⟩
 ·omega
 ·exact ⟨_, _, e⟩
theorem own_ge2 {w : World} {B n : Nat} {t : TypeId} {v : Value} {xs : List Value} (h : w.ownsRow B t 1 v n xs) : ∀ b, v.ownBlock = some b → B ≤ b ∧ b < w.heap.size := by
 intro b hb
 rcases h.2 with ⟨rfl, -⟩ | ⟨g, cap, cur, rfl, hge, hg, _⟩
 ·simp [Value.ownBlock] at hb
 ·simp [Value.ownBlock] at hb; subst hb; exact ⟨hge, lt_of_block hg⟩
set_option linter.unusedVariables false in
set_option linter.unusedSimpArgs false in
set_option maxRecDepth 100000 in
set_option maxHeartbeats 4000000 in
theorem compileBody_any (B : Nat) (w1 : World) (mo : Option Nat) (T : Int) (q : Option Addr) (n c : Nat) (ss : List St) (w : World) (hn : ss.length = n) (hn4 : n ≤ 4) (hs : StmsOwn B w1 (.slice q n c) ss) (hE : Ext w1 w) :
  Calls Tryz.prog 110 #[.agg #[.map mo, .int .i64 T], .slice q n c] w fun e w' => (∃ v' C, e = .returned v' ∧ FfL C B w1 mo T w.heap.size w' v' ss ∧ ∀ g, C g → w.heap.size ≤ g ∧ g < w'.heap.size) ∧ Ext w w' := by
 obtain ⟨i0, hi, hz0, hz1, hz2⟩ := info_parts infoFor
 have HN := Lib.hid hn; have HS := Lib.hid hs; have HE1 := Lib.hid hE
 clear hn hs hE
 go_enter Tryz.func110, Tryz.ntmps110
 go_wp2
 obtain ⟨W0, hW0⟩ : ∃ W0, w.alloc (.cells #[.map mo, .int .i64 T] 66) = W0 := ⟨_, rfl⟩
 have E0 : Hid (Ext w W0) := Lib.hid (by rw [← hW0]; exact (Ext.refl w).alloc _)
 have B0 := Lib.hid (show W0.heap[w.heap.size]? = some (.cells #[.map mo, .int .i64 T] 66 (0, 0)) by rw [← hW0]; exact blk_at rfl)
 have hz : W0.heap.size = w.heap.size + 1 := by rw [← hW0]; simp
 rw [hW0]
 clear hW0
 go_loopw [5, 10] (fun lv iv wr => ∃ (k : Nat) (p : Option Addr) (d : Nat) (C : Nat → Prop), k ≤ n ∧ iv = .int .i64 k ∧ lv = .slice p k d ∧ FfL C B w1 mo T (w.heap.size + 1) wr (.slice p k d) (ss.take k) ∧ (∀ g, C g → w.heap.size + 1 ≤ g ∧ g < wr.heap.size) ∧ (∀ b, (Value.slice p k d).ownBlock = some b → ¬ C b) ∧ Ext W0 wr) (fun _ iv _ => n - (intOf iv).toNat)
 case atStart => exact ⟨0, none, 0, fun _ => False, by omega, rfl, rfl, FfL.nil _ _ _ _ _ _ _, fun _ h => h.elim, fun b h => by simp [Value.ownBlock] at h, Ext.refl _⟩
 case round =>
  obtain ⟨k, p, d, C, hk, rfl, rfl, hff, hc1, hc2, hE⟩ := hrel
  have HFF := Lib.hid hff; have HC1 := Lib.hid hc1; have HC2 := Lib.hid hc2; have HE := Lib.hid hE
  obtain ⟨y0, y1, -, -⟩ := blk2 (hE.blk B0.out)
  clear hff hc1 hc2 hE
  by_cases hlt : k < n
  ·obtain ⟨s, hs⟩ := get_some (xs := ss) (k := k) (by rw [HN.out]; exact hlt)
   obtain ⟨g, u0, u1, u2, rfl, hg, c0, c1, c2, hst⟩ := (HS.out.ext (HE1.out.trans (E0.out.trans HE.out))).at3 HN.out hs
   obtain ⟨g', u0', u1', u2', hge, -, d0, d1, d2, hst0⟩ := HS.out.at3 HN.out hs
   cases hge
   have k0 := (HE1.out.trans (E0.out.trans HE.out)).keep d0
   have k1 := (HE1.out.trans (E0.out.trans HE.out)).keep d1
   have k2 := (HE1.out.trans (E0.out.trans HE.out)).keep d2
   rw [c0] at k0
   rw [c1] at k1
   rw [c2] at k2
   cases k0
   cases k1
   cases k2
   obtain ⟨rfl, -, hln, hnd⟩ := hst0
   obtain ⟨pl, cl, rfl⟩ := hln.form
   obtain ⟨tn, pn, rfl⟩ := hnd.iface
   have HND := Lib.hid hnd; have HX := Lib.hid hs
   have hl0 : w.heap.size < wr.heap.size := by have := HE.out.size_le; omega
   clear hst hln hnd hs d0 d1 d2
   go_wp2_with (fail)
   refine (compile_any HND.out mo T _).mono ?_
   rintro e w3 ⟨⟨f, rfl, hf⟩, hE3⟩
   obtain ⟨kf, cf, rfl⟩ := hf.form
   have X3 := Lib.hid (((Ext.refl wr).alloc _).trans hE3)
   have hz3 := hE3.size_le
   have hz4 : wr.heap.size + 1 ≤ w3.heap.size := by simp at hz3; omega
   have hzr := HE.out.size_le
   have HF := Lib.hid hf
   clear hE3 hf c0 c1 c2 y0 y1
   obtain ⟨vs, ho, he⟩ := HFF.out
   have HTL : Hid ((ss.take k).length = k) := Lib.hid (by rw [List.length_take, HN.out]; omega)
   rw [HTL.out] at ho
   have HO := Lib.hid (ownsRow_ext ho (X3.out.alloc (.cells #[.func (.func kf) #[] cf] 264)))
   have HHE := Lib.hid he
   have hvl : vs.length = k := by have := ho.1; omega
   clear ho he
   go_wp2_with (at_builtin; refine wpList_append_own_at _ rfl (.tmp 14) (.tmp 19) 186 rfl (w.heap.size + 1) 264 i0 .nilFunc 1 8 underFor hi hz0 hz1 hz2 rfl (by decide) (.slice p k d) k vs rfl HO.out ⟨w3.heap.size, 0, none⟩ 1 1 [.func (.func kf) #[] cf] rfl rfl ?c1 ?c2 ?c3 ?c4 ?c5 ?_)
   case c1 => exact cell_one_new _ _ _
   case c2 => intro u hu; simp at hu; subst hu; rfl
   case c3 => unfold maxLen; omega
   case c4 => omega
   case c5 => simp; omega
   intro v' w5 hown' hgrow hnil hloc
   have hob := own_ge2 HO.out
   have hob2 := HFF.out
   obtain ⟨vsx, hox, -⟩ := hob2
   have hob3 := own_ge2 hox
   obtain ⟨p', d', rfl⟩ := own_form2 hown'
   have hff' := FfL.push (C2 := fun g => C g ∨ ((wr.alloc (.cells #[.string s.1, .slice pl s.2.1.length cl, .iface tn pn] 163)).heap.size ≤ g ∧ g < w3.heap.size)) HTL.out hvl HHE.out
    (keepC_grown (X3.out.alloc (.cells #[.func (.func kf) #[] cf] 264)) hgrow HC2.out) HF.out (keepC_grown ((Ext.refl w3).alloc (.cells #[.func (.func kf) #[] cf] 264)) hgrow (fun b hb h => by
     have h1 := (hob3 b hb).2
     have h2 := h.1
     simp at h2
     omega)) (fun g h => .inl h) (fun g h => .inr h) hown'
   rw [← take_next HX.out] at hff'
   have HFF' := Lib.hid hff'
   have hsz5 : w3.heap.size + 1 ≤ w5.heap.size := by have := hgrow.size; simpa using this
   have HE' : Hid (Ext W0 w5) := Lib.hid ((HE.out.trans (X3.out.alloc (.cells #[.func (.func kf) #[] cf] 264))).grown hgrow (fun r hr => by have := (hob3 r hr).1; omega))
   have HC1' : Hid (∀ g, (C g ∨ ((wr.alloc (.cells #[.string s.1, .slice pl s.2.1.length cl, .iface tn pn] 163)).heap.size ≤ g ∧ g < w3.heap.size)) → w.heap.size + 1 ≤ g ∧ g < w5.heap.size) := Lib.hid (fun g h => by
    rcases h with h | ⟨h1, h2⟩
    ·have := HC1.out g h; omega
    ·simp at h1; omega)
   have HC2' : Hid (∀ b, (Value.slice p' (k + 1) d').ownBlock = some b → ¬ (C b ∨ ((wr.alloc (.cells #[.string s.1, .slice pl s.2.1.length cl, .iface tn pn] 163)).heap.size ≤ b ∧ b < w3.heap.size))) := Lib.hid (fun b hb h => by
    rcases hloc with e | e
    ·rw [e] at hb
     rcases h with h | ⟨h1, h2⟩
     ·exact HC2.out b hb h
     ·have := (hob3 b hb).2; simp at h1; omega
    ·rw [e] at hb
     simp only [Option.some.injEq] at hb
     rcases h with h | ⟨h1, h2⟩
     ·have := (HC1.out b h).2; omega
     ·omega)
   clear hff' hob hob3 hox hgrow hloc hown' hnil hz3 HF HFF HHE HO
   go_wp2
   go_roundw
   case rel => exact ⟨k + 1, p', d', _, by omega, by go_num, rfl, HFF'.out, HC1'.out, HC2'.out, HE'.out⟩
   case measure => simp [intOf]; omega
  ·obtain rfl : k = n := by omega
   have HR : Hid (FfL (fun g => w.heap.size ≤ g ∧ g < wr.heap.size) B w1 mo T w.heap.size wr (.slice p k d) ss) := Lib.hid (by
    have h := HFF.out
    rw [List.take_of_length_le (by rw [HN.out]; omega)] at h
    obtain ⟨vs, h1, h2⟩ := h
    exact FfL.mono ⟨vs, ownsRow_weak h1 (by omega), h2⟩ (fun g hg => by have := HC1.out g hg; omega))
   go_wp2
   go_ret
   exact ⟨⟨_, _, rfl, HR.out, fun g h => h⟩, E0.out.trans HE.out⟩
end Go.Proofs.YtklehkkclojccaaGreat
/- The machine of a program. No statement is proved here. -/
namespace Go.Proofs.YtklehkkclojccaaGreat
open Go.RowKit Go.Maps
theorem cloneA_any (p : Option Addr) (n c : Nat) (xs : List Int) (w : World) (hl : xs.length = n) (hs : IntsAt w (.slice p n c) xs) (hn : n ≤ 1048576) :
  Calls Tryz.prog 51 #[.slice p n c] w fun e w' => (∃ p' c', e = .returned (.slice p' n c') ∧ IntsOwn w.heap.size w' (.slice p' n c') xs) ∧ Ext w w' := by
 obtain ⟨hm, hc⟩ := hs.cl
 cases p with
 | some ad =>
  refine (cloneNew_any ad n c xs w hl (fun i x hi => ?_) hn).mono ?_
  ·obtain ⟨b, off, e, hcell⟩ := hc i x hi
   cases e
   have hadd : (⟨b, off, none⟩ : Addr).add i = ⟨b, off + i, none⟩ := by unfold Addr.add; split <;> simp_all
   rw [hadd]
   exact hcell
  ·rintro e w' ⟨g, c', rfl, h1, -, -, h4⟩
   exact ⟨⟨_, _, rfl, h1⟩, h4⟩
 | none =>
  have h0 : n = 0 := by
   rcases Nat.eq_zero_or_pos n with h | h
   ·exact h
   ·obtain ⟨x, hx⟩ := get_some (xs := xs) (k := 0) (by omega)
    obtain ⟨b, off, e, -⟩ := hc 0 x hx
    cases e
  subst h0
  obtain rfl : xs = [] := List.eq_nil_of_length_eq_zero hl
  have hnil : ∀ (w' : World), Sem.run Tryz.prog (binOp .eql 39 (.slice none 0 c) (.slice none 0 0)) w' = .ok (.bool true) w' := by
   intro w'
   have h : ∀ d : Nat, (Op.equalIn (d + 1) 39 (.slice none 0 c) (.slice none 0 0)).run Tryz.prog w' = .ok true w' := fun d => by
    simp [Op.equalIn, run_underlying underSliceInt]
   simp [binOp, Op.equal, Op.maxDepth, h 9999]
  clear hm hc hl hs
  go_enter Tryz.func51, Tryz.ntmps51
  go_wp2
  go_ret
  exact ⟨⟨_, _, rfl, World.ownsRow_nil _ _ _ _⟩, Ext.refl _⟩
def FsL (C : Nat → Prop) (B : Nat) (w1 : World) (mo : Option Nat) (T : Int) (B' : Nat) (W : World) (v : Value) (ps : List Pt) : Prop :=
 ∃ vs, W.ownsRow B' 186 1 v ps.length vs ∧ ∀ (i : Nat) (x : Pt), ps[i]? = some x → ∃ f, vs[i]? = some f ∧ FfL C B w1 mo T B' W f x.2 ∧ ∀ b, f.ownBlock = some b → C b
theorem FsL.nil (C : Nat → Prop) (B : Nat) (w1 : World) (mo : Option Nat) (T : Int) (B' : Nat) (W : World) : FsL C B w1 mo T B' W (.slice none 0 0) [] := ⟨[], World.ownsRow_nil _ _ _ _, fun i s h => by simp at h⟩
theorem FfL.keep {C : Nat → Prop} {B : Nat} {w1 : World} {mo : Option Nat} {T : Int} {B' : Nat} {W W' : World} {v : Value} {ss : List St} (h : FfL C B w1 mo T B' W v ss) (hv : ∀ b, v.ownBlock = some b → C b) (hK : KeepC C W W') : FfL C B w1 mo T B' W' v ss := by
 obtain ⟨vs, h1, h2⟩ := h
 refine ⟨vs, ⟨h1.1, ?_⟩, fun i s hi => by obtain ⟨f, a, b⟩ := h2 i s hi; exact ⟨f, a, b.keep hK⟩⟩
 rcases h1.2 with h | ⟨g, cap, cur, rfl, hge, hg, hr⟩
 ·exact .inl h
 ·exact .inr ⟨g, cap, cur, rfl, hge, hK.blk (hv g rfl) hg, hr⟩
theorem FfL.weak {C : Nat → Prop} {B : Nat} {w1 : World} {mo : Option Nat} {T : Int} {B' B2 : Nat} {W : World} {v : Value} {ss : List St} (h : FfL C B w1 mo T B' W v ss) (hB : B2 ≤ B') : FfL C B w1 mo T B2 W v ss := by
 obtain ⟨vs, h1, h2⟩ := h
 exact ⟨vs, ownsRow_weak h1 hB, h2⟩
theorem FfL.own {C : Nat → Prop} {B : Nat} {w1 : World} {mo : Option Nat} {T : Int} {B' : Nat} {W : World} {v : Value} {ss : List St} (h : FfL C B w1 mo T B' W v ss) : ∀ b, v.ownBlock = some b → B' ≤ b ∧ b < W.heap.size := by
 obtain ⟨vs, h1, -⟩ := h
 exact own_ge2 h1
theorem FsL.push {C C1 C2 : Nat → Prop} {B : Nat} {w1 : World} {mo : Option Nat} {T : Int} {B' k : Nat} {W W3 W5 : World} {v' f : Value} {ps : List Pt} {s : Pt} {vs : List Value} (hk : ps.length = k) (hvl : vs.length = k)
  (he : ∀ (i : Nat) (x : Pt), ps[i]? = some x → ∃ f, vs[i]? = some f ∧ FfL C B w1 mo T B' W f x.2 ∧ ∀ b, f.ownBlock = some b → C b)
  (hK : KeepC C W W5) (hf : FfL C1 B w1 mo T B' W3 f s.2) (hfo : ∀ b, f.ownBlock = some b → C1 b) (hK1 : KeepC C1 W3 W5) (h1 : ∀ g, C g → C2 g) (h2 : ∀ g, C1 g → C2 g) (ho : W5.ownsRow B' 186 1 v' (k + 1) (vs ++ [f])) : FsL C2 B w1 mo T B' W5 v' (ps ++ [s]) := by
 refine ⟨vs ++ [f], by rw [List.length_append, hk]; exact ho, fun i x hi => ?_⟩
 rcases Nat.lt_or_ge i k with hlt | hge
 ·rw [List.getElem?_append_left (by omega)] at hi
  obtain ⟨f0, a, b, c⟩ := he i x hi
  exact ⟨f0, by rw [List.getElem?_append_left (by omega)]; exact a, (b.keep c hK).mono h1, fun g hg => h1 g (c g hg)⟩
 ·rw [List.getElem?_append_right (by omega)] at hi
  have hi0 : i = k := by
   rcases Nat.eq_or_lt_of_le hge with h | h
   ·exact h.symm
   ·rw [List.getElem?_eq_none (by simp; omega)] at hi; cases hi
  subst hi0
  rw [hk, Nat.sub_self] at hi
  simp at hi
  subst hi
  exact ⟨f, by rw [List.getElem?_append_right (by omega)]; simp [hvl], (hf.keep hfo hK1).mono h2, fun g hg => h2 g (hfo g hg)⟩
theorem FsL.keep {C : Nat → Prop} {B : Nat} {w1 : World} {mo : Option Nat} {T : Int} {B' : Nat} {W W' : World} {v : Value} {ps : List Pt} (h : FsL C B w1 mo T B' W v ps) (hK : KeepC C W W') (hv : ∀ b, v.ownBlock = some b → W'.heap[b]? = W.heap[b]?) : FsL C B w1 mo T B' W' v ps := by
 obtain ⟨vs, h1, h2⟩ := h
 refine ⟨vs, ⟨h1.1, ?_⟩, fun i s hi => by obtain ⟨f, a, b, c⟩ := h2 i s hi; exact ⟨f, a, b.keep c hK, c⟩⟩
 rcases h1.2 with h | ⟨g, cap, cur, rfl, hge, hg, hr⟩
 ·exact .inl h
 ·exact .inr ⟨g, cap, cur, rfl, hge, (hv g rfl).trans hg, hr⟩
theorem FsL.mono {C C2 : Nat → Prop} {B : Nat} {w1 : World} {mo : Option Nat} {T : Int} {B' : Nat} {W : World} {v : Value} {ps : List Pt} (h : FsL C B w1 mo T B' W v ps) (hC : ∀ g, C g → C2 g) : FsL C2 B w1 mo T B' W v ps := by
 obtain ⟨vs, h1, h2⟩ := h
 exact ⟨vs, h1, fun i s hi => by obtain ⟨f, a, b, c⟩ := h2 i s hi; exact ⟨f, a, b.mono hC, fun g hg => hC g (c g hg)⟩⟩
def MachR (L : Nat) (W : World) (v : Value) (ars : List Arr) (ps : List Pt) (xs : List Int) : Prop :=
 ∃ (Z : World) (B M0 Lo Bm : Nat) (D : DataW Value) (q1 : Option Addr) (c1 : Nat) (q2 : Option Addr) (c2 : Nat) (pm : Option Addr) (cm : Nat) (pf : Option Addr) (cf : Nat),
  v = .agg #[.map (some Bm), .int .i64 (totN ars), .slice q1 ps.length c1, .slice q2 (evsOf ars ps).length c2, .slice pm xs.length cm, .slice pf ps.length cf] ∧
  Z.ownsMap Tryz.prog 9 rawE Bm 4 D ∧ MapIs Z D ars ∧ EvsOwn B Z (.slice q2 (evsOf ars ps).length c2) (evsOf ars ps) ∧ Ext Z W ∧ L ≤ M0 ∧ Z.heap.size ≤ M0 ∧
  IntsOwn M0 W (.slice pm xs.length cm) xs ∧ (∀ b, (Value.slice pm xs.length cm).ownBlock = some b → b < Lo) ∧
  FsL (fun g => Lo ≤ g) B Z (some Bm) (totN ars) Lo W (.slice pf ps.length cf) ps
theorem underFs2 : Tryz.prog.underlying 85 = some (.slice 186) := by kernel_rfl
theorem blk4' {W : World} {g : Nat} {a b c d : Value} {t : TypeId} (h : W.heap[g]? = some (.cells #[a, b, c, d] t (0, 0))) : W.cell? ⟨g, 0, none⟩ = some a ∧ W.cell? ⟨g, 1, none⟩ = some b ∧ W.cell? ⟨g, 2, none⟩ = some c ∧ W.cell? ⟨g, 3, none⟩ = some d ∧ ∀ j, W.frozen? ⟨g, j, none⟩ = false := by
 simp [World.cell?, World.frozen?, h]
theorem blk6 {W : World} {g : Nat} {a b c d e f : Value} {t : TypeId} (h : W.heap[g]? = some (.cells #[a, b, c, d, e, f] t (0, 0))) : W.cell? ⟨g, 0, none⟩ = some a ∧ W.cell? ⟨g, 1, none⟩ = some b ∧ W.cell? ⟨g, 2, none⟩ = some c ∧ W.cell? ⟨g, 3, none⟩ = some d ∧ W.cell? ⟨g, 4, none⟩ = some e ∧ W.cell? ⟨g, 5, none⟩ = some f ∧ ∀ j, W.frozen? ⟨g, j, none⟩ = false := by
 simp [World.cell?, World.frozen?, h]
theorem blk6_set {W : World} {g : Nat} {a b c d e f a' b' c' d' e' f' : Value} {t : TypeId} (h : W.heap[g]? = some (.cells #[a, b, c, d, e, f] t (0, 0))) :
  ((((((W.setCell ⟨g, 0, none⟩ a').setCell ⟨g, 1, none⟩ b').setCell ⟨g, 2, none⟩ c').setCell ⟨g, 3, none⟩ d').setCell ⟨g, 4, none⟩ e').setCell ⟨g, 5, none⟩ f').heap[g]? = some (.cells #[a', b', c', d', e', f'] t (0, 0)) := by
 have h1 := heap_setCell_same W g 0 _ t a' h
 have h2 := heap_setCell_same _ g 1 _ t b' h1
 have h3 := heap_setCell_same _ g 2 _ t c' h2
 have h4 := heap_setCell_same _ g 3 _ t d' h3
 have h5 := heap_setCell_same _ g 4 _ t e' h4
 have h6 := heap_setCell_same _ g 5 _ t f' h5
 simpa using h6
theorem lv_set6 (W : World) (g : Nat) (a b c d e f : Value) : Lv (fun k => k = g) W ((((((W.setCell ⟨g, 0, none⟩ a).setCell ⟨g, 1, none⟩ b).setCell ⟨g, 2, none⟩ c).setCell ⟨g, 3, none⟩ d).setCell ⟨g, 4, none⟩ e).setCell ⟨g, 5, none⟩ f) :=
 ((lv_set4 W g a b c d).trans (lv_set _ g 4 e) (fun _ _ h => h) (fun _ _ h => h)).trans (lv_set _ g 5 f) (fun _ _ h => h) (fun _ _ h => h)
theorem ext_set6 {w W : World} (h : Ext w W) {g : Nat} (hg : w.heap.size ≤ g) (a b c d e f : Value) : Ext w ((((((W.setCell ⟨g, 0, none⟩ a).setCell ⟨g, 1, none⟩ b).setCell ⟨g, 2, none⟩ c).setCell ⟨g, 3, none⟩ d).setCell ⟨g, 4, none⟩ e).setCell ⟨g, 5, none⟩ f) :=
 (((((h.setAt hg a).setAt hg b).setAt hg c).setAt hg d).setAt hg e).setAt hg f
theorem ext_both6 {A W : World} {r : Nat} {a b c d e f : Value} {t : TypeId} (hE : Ext A W) (hA : A.heap[r]? = some (.cells #[a, b, c, d, e, f] t (0, 0))) (a' b' c' d' e' f' : Value) :
  Ext ((((((A.setCell ⟨r, 0, none⟩ a').setCell ⟨r, 1, none⟩ b').setCell ⟨r, 2, none⟩ c').setCell ⟨r, 3, none⟩ d').setCell ⟨r, 4, none⟩ e').setCell ⟨r, 5, none⟩ f')
   ((((((W.setCell ⟨r, 0, none⟩ a').setCell ⟨r, 1, none⟩ b').setCell ⟨r, 2, none⟩ c').setCell ⟨r, 3, none⟩ d').setCell ⟨r, 4, none⟩ e').setCell ⟨r, 5, none⟩ f') := by
 have hW := hE.blk hA
 have l1 := lv_set6 A r a' b' c' d' e' f'
 have l2 := lv_set6 W r a' b' c' d' e' f'
 refine ⟨l2.os.trans (hE.os.trans l1.os.symm), l2.tape.trans (hE.tape.trans l1.tape.symm), l2.output.trans (hE.output.trans l1.output.symm), by simpa using hE.size, fun i hi => ?_⟩
 have hi' : i < A.heap.size := by simpa using hi
 by_cases h : i = r
 ·subst h; rw [blk6_set hW, blk6_set hA]
 ·exact (l2.block i (Nat.lt_of_lt_of_le hi' hE.size) h).trans ((hE.block i hi').trans (l1.block i hi' h).symm)
theorem EvsOwn.lvB {D : Nat → Prop} {B : Nat} {w w' : World} {v : Value} {es : List Ev} (h : EvsOwn B w v es) (hv : Lv D w w') (hD : ∀ b, D b → b < B) : EvsOwn B w' v es := by
 obtain ⟨vs, h1, h2⟩ := h
 refine ⟨vs, row_lv h1 hv (fun b hb hd => by have h3 := (World.ownsRow.lt h1 b hb).1; have h4 := hD b hd; omega), fun i x hi => ?_⟩
 obtain ⟨u0, u1, u2, u3, u4, a0, a1, a2, a3, a4, hr⟩ := h2 i x hi
 refine ⟨u0, u1, u2, u3, u4, a0, a1, a2, a3, a4, hr.lv hv (fun b hb hd => ?_) (fun b hb hd => ?_)⟩
 ·obtain ⟨-, -, ⟨g, c, e, hi2⟩, -, -⟩ := hr
  have h3 := (World.ownsRow.lt hi2 b hb).1; have h4 := hD b hd; omega
 ·obtain ⟨-, -, -, hr2, -⟩ := hr
  have h3 := (World.ownsRow.lt hr2 b hb).1; have h4 := hD b hd; omega
theorem LinsOwn.lvB {D : Nat → Prop} {B : Nat} {w w' : World} {v : Value} {xs : List Aff} (h : LinsOwn B w v xs) (hv : Lv D w w') (hD : ∀ b, D b → b < B) : LinsOwn B w' v xs := ⟨row_lv h.1 hv (fun b hb hd => by have h3 := (World.ownsRow.lt h.1 b hb).1; have h4 := hD b hd; omega), h.2⟩
theorem FnR.stat {C : Nat → Prop} {B : Nat} {w1 w2 : World} {mo : Option Nat} {T : Int} {W : World} {f : Value} {e : Ex} (h : FnR C B w1 mo T W f e) (hs : ∀ s subs, LinsOwn B w1 s subs → LinsOwn B w2 s subs) : FnR C B w2 mo T W f e := by
 induction h with
 | num n g c0 hg => exact .num n g c0 hg
 | idx a b c d k h g c0 hg => exact .idx a b c d k h g c0 hg
 | read arr s subs h gl gr c0 c1 hl hr => exact .read arr s subs (hs _ _ h) gl gr c0 c1 hl hr
 | op kind fx fy ex ey hk ga gx gy c0 c1 c2 ha hx hy _ _ ihx ihy => exact .op kind fx fy ex ey hk ga gx gy c0 c1 c2 ha hx hy ihx ihy
theorem FsL.stat {C : Nat → Prop} {B : Nat} {w1 w2 : World} {mo : Option Nat} {T : Int} {B' : Nat} {W : World} {v : Value} {ps : List Pt} (h : FsL C B w1 mo T B' W v ps) (hs : ∀ s subs, LinsOwn B w1 s subs → LinsOwn B w2 s subs) : FsL C B w2 mo T B' W v ps := by
 obtain ⟨vs, h1, h2⟩ := h
 refine ⟨vs, h1, fun i x hi => ?_⟩
 obtain ⟨f, a, ⟨us, b1, b2⟩, c⟩ := h2 i x hi
 exact ⟨f, a, ⟨us, b1, fun j s hj => by obtain ⟨f2, d1, d2⟩ := b2 j s hj; exact ⟨f2, d1, d2.stat hs⟩⟩, c⟩
theorem MapIs.move {W0 X : World} {D : DataW Value} {ars : List Arr} (h : MapIs W0 D ars) (ho : ∀ a ∈ ars, arrOkB a = true) (hb : ∀ b o (x : Int), 1 ≤ x → W0.cell? ⟨b, o, none⟩ = some (.int .i64 x) → X.cell? ⟨b, o, none⟩ = some (.int .i64 x)) : MapIs X D ars := fun nm => by
 obtain ⟨h1, h2⟩ := h nm
 refine ⟨h1, fun f ds hp => ?_⟩
 obtain ⟨h3, q, c, h4, p, c', e, hm, h5⟩ := h2 f ds hp
 obtain ⟨⟨-, hpos⟩, -⟩ := placeOf_bd ho hp
 exact ⟨h3, q, c, h4, p, c', e, hm, fun i x hi => by
  obtain ⟨b, off, e1, e2⟩ := h5 i x hi
  exact ⟨b, off, e1, hb b _ x (hpos x (List.mem_of_getElem? hi)).1 e2⟩⟩
theorem KeepC.trans {C : Nat → Prop} {A B D : World} (h : KeepC C A B) (hs : A.heap.size ≤ B.heap.size) (k : KeepC C B D) : KeepC C A D := fun g hc hl => (k g hc (Nat.lt_of_lt_of_le hl hs)).trans (h g hc hl)
theorem keepC_setO {C : Nat → Prop} {X : World} {g o : Nat} (hg : ¬ C g) (u : Value) : KeepC C X (X.setCell ⟨g, o, none⟩ u) := fun k hk _ => Below.heap_setCell _ _ _ _ (fun e => hg (by have e' : k = g := e; rw [← e']; exact hk))
theorem blk6_set5 {W : World} {g : Nat} {a b c d e f f' : Value} {t : TypeId} (h : W.heap[g]? = some (.cells #[a, b, c, d, e, f] t (0, 0))) : (W.setCell ⟨g, 5, none⟩ f').heap[g]? = some (.cells #[a, b, c, d, e, f'] t (0, 0)) := by
 have h1 := heap_setCell_same W g 5 _ t f' h
 simpa using h1
theorem mach_step {C C1 : Nat → Prop} {B : Nat} {w1 : World} {mo : Option Nat} {T : Int} {Lo : Nat} {wr w3 w5 wc : World} {k g8 nb d cf d5 : Nat} {p pf p5 : Option Addr} {o1 : Obj} {x : Pt} {ps0 : List Pt} {vs : List Value} {a b c d' e f0 : Value}
  (hL : Lv (fun b => b = g8) wc wr) (hwc : wc.heap.size = Lo) (hg8 : g8 < Lo) (G5 : w5.heap[g8]? = some (.cells #[a, b, c, d', e, f0] 87 (0, 0)))
  (hc1 : ∀ g, C g → Lo ≤ g ∧ g < wr.heap.size) (hc2 : ∀ b, (Value.slice p k d).ownBlock = some b → ¬ C b) (ho : wr.ownsRow Lo 186 1 (.slice p k d) k vs) (hvl : vs.length = k) (htl : ps0.length = k)
  (he : ∀ (i : Nat) (x : Pt), ps0[i]? = some x → ∃ f, vs[i]? = some f ∧ FfL C B w1 mo T Lo wr f x.2 ∧ ∀ (b : Nat), f.ownBlock = some b → C b) (XE : Ext wr w3) (hf0 : FfL C1 B w1 mo T (wr.alloc o1).drew.heap.size w3 (.slice pf nb cf) x.2)
  (hC1 : ∀ g, C1 g → (wr.alloc o1).drew.heap.size ≤ g ∧ g < w3.heap.size) (hgr : (w3.alloc (.cells #[.slice pf nb cf] 186)).grownBy w5 (Value.slice p k d).ownBlock)
  (hown : w5.ownsRow Lo 186 1 (.slice p5 (k + 1) d5) (k + 1) (vs ++ [.slice pf nb cf])) (hat : (Value.slice p5 (k + 1) d5).ownBlock = (Value.slice p k d).ownBlock ∨ (Value.slice p5 (k + 1) d5).ownBlock = some (w3.alloc (.cells #[.slice pf nb cf] 186)).heap.size) :
  ∃ C2 : Nat → Prop, (w5.setCell ⟨g8, 5, none⟩ (.slice p5 (k + 1) d5)).heap[g8]? = some (.cells #[a, b, c, d', e, .slice p5 (k + 1) d5] 87 (0, 0)) ∧ FsL C2 B w1 mo T Lo (w5.setCell ⟨g8, 5, none⟩ (.slice p5 (k + 1) d5)) (.slice p5 (k + 1) d5) (ps0 ++ [x]) ∧
   (∀ g, C2 g → Lo ≤ g ∧ g < (w5.setCell ⟨g8, 5, none⟩ (.slice p5 (k + 1) d5)).heap.size) ∧ (∀ b, (Value.slice p5 (k + 1) d5).ownBlock = some b → ¬ C2 b) ∧ Lv (fun b => b = g8) wc (w5.setCell ⟨g8, 5, none⟩ (.slice p5 (k + 1) d5)) := by
 have hs1 := XE.size_le
 have hs0 := hL.size
 have hs5 : w3.heap.size + 1 ≤ w5.heap.size := by have := hgr.size; simpa using this
 simp only [World.size_drew, World.size_alloc] at hf0 hC1
 have hf : FfL (fun g => wr.heap.size + 1 ≤ g ∧ g < w3.heap.size) B w1 mo T Lo w3 (.slice pf nb cf) x.2 := (hf0.mono hC1).weak (by omega)
 have hfo : ∀ b, (Value.slice pf nb cf).ownBlock = some b → wr.heap.size + 1 ≤ b ∧ b < w3.heap.size := hf0.own
 have hob := own_ge2 ho
 have hob5 := own_ge2 hown
 have hk1 : KeepC C wr w5 := keepC_grown (XE.alloc _) hgr hc2
 have hk2 : KeepC (fun g => wr.heap.size + 1 ≤ g ∧ g < w3.heap.size) w3 w5 := keepC_grown ((Ext.refl w3).alloc _) hgr (fun b hb h => by have := (hob b hb).2; omega)
 have hp := FsL.push (C2 := fun g => C g ∨ (wr.heap.size + 1 ≤ g ∧ g < w3.heap.size)) htl hvl he hk1 hf hfo hk2 (fun g h => .inl h) (fun g h => .inr h) hown
 have hn8 : ¬ (C g8 ∨ (wr.heap.size + 1 ≤ g8 ∧ g8 < w3.heap.size)) := fun h => by
  rcases h with h | h
  ·have := (hc1 g8 h).1; omega
  ·omega
 refine ⟨_, blk6_set5 G5, hp.keep (keepC_setO hn8 _) (fun b hb => Below.heap_setCell _ _ _ _ (fun e => by have e' : b = g8 := e; have := (hob5 b hb).1; omega)), fun g h => ?_, fun b hb h => ?_, ?_⟩
 ·rw [World.size_setCell]
  rcases h with h | h
  ·have := hc1 g h; omega
  ·omega
 ·rcases hat with e | e
  ·rw [e] at hb
   rcases h with h | h
   ·exact hc2 b hb h
   ·have := (hob b hb).2; omega
  ·rw [e] at hb
   simp at hb
   rcases h with h | h
   ·have := (hc1 b h).2; omega
   ·omega
 ·refine ((hL.trans (Ext.lv (D := fun _ => False) (XE.alloc (.cells #[.slice pf nb cf] 186))) (E := fun b => b = g8) (fun _ _ h => h) (fun _ _ h => h.elim)).trans (Lv.grown (D := fun b => Lo ≤ b) hgr (fun r hr _ => (hob r hr).1)) (E := fun b => b = g8) (fun _ _ h => h) (fun b hb h => ?_)).trans (lv_set w5 g8 5 _) (fun _ _ h => h) (fun _ _ h => h)
  omega
theorem Lv.cellAt {D : Nat → Prop} {A B : World} {b o : Nat} {v : Value} (h : Lv D A B) (hc : A.cell? ⟨b, o, none⟩ = some v) (hn : ¬ D b) : B.cell? ⟨b, o, none⟩ = some v :=
 (World.cell?_of_block (a := ⟨b, o, none⟩) (h.block b (World.block_lt_of_cell? _ _ hc) hn)).trans hc
theorem Lv.grownAt {A B : World} {g : Nat} (h : Lv (fun k => k = g) A B) : A.grownBy B (some g) := ⟨h.os, h.tape, h.output, h.size, fun i hi hne => h.block i hi (fun e => hne (by rw [e]))⟩
theorem zero6_no {W : World} {r b o : Nat} {x : Int} (h : W.heap[r]? = some (.cells #[.map none, .int .i64 0, .slice none 0 0, .slice none 0 0, .slice none 0 0, .slice none 0 0] 87 (0, 0))) (hx : 1 ≤ x) (hc : W.cell? ⟨b, o, none⟩ = some (.int .i64 x)) : b ≠ r := by
 rintro rfl
 obtain ⟨c0, c1, c2, c3, c4, c5, -⟩ := blk6 h
 match o with
 | 0 => rw [c0] at hc; cases hc
 | 1 => rw [c1] at hc; cases hc; omega
 | 2 => rw [c2] at hc; cases hc
 | 3 => rw [c3] at hc; cases hc
 | 4 => rw [c4] at hc; cases hc
 | 5 => rw [c5] at hc; cases hc
 | n + 6 => simp [World.cell?, h] at hc
theorem machR_out {w W0 w1 w2 wc wr : World} {Bm T' : Nat} {D : DataW Value} {T : Int} {q1 q2 p4 p : Option Addr} {m c1 ne c2 n d4 d g8 Lo r : Nat} {C : Nat → Prop} {ars : List Arr} {ps : List Pt} {xs : List Int} {K : Nat}
  (h0 : W0.heap.size = T') (hr : r < T') (hwr : w.heap.size ≤ r) (R0 : W0.heap[r]? = some (.cells #[.map none, .int .i64 0, .slice none 0 0, .slice none 0 0, .slice none 0 0, .slice none 0 0] 87 (0, 0))) (E01 : Ext W0 w1) (hpb : progB ars ps = true) (hB : W0.heap.size ≤ Bm)
  (hom : w1.ownsMap Tryz.prog 9 rawE Bm 4 D) (hmi : MapIs W0 D ars) (hev : EvsOwn W0.heap.size w1 (.slice q2 ne c2) (evsOf ars ps)) (hT : totN ars = T) (hm : ps.length = m) (hne : (evsOf ars ps).length = ne) (hn : xs.length = n)
  (X12 : Ext w1 w2) (X24 : Ext w2 wc) (hLo : wc.heap.size = Lo) (hL : Lv (fun b => b = g8) wc wr) (hg8 : w2.heap.size ≤ g8) (h4 : IntsOwn w2.heap.size wc (.slice p4 n d4) xs) (hn8 : ∀ b, (Value.slice p4 n d4).ownBlock = some b → b ≠ g8)
  (hff : FsL C W0.heap.size w1 (some Bm) T Lo wr (.slice p m d) ps) (hC : ∀ g, C g → Lo ≤ g ∧ g < wr.heap.size) (hK : K = T' ) :
  MachR w.heap.size ((((((wr.setCell ⟨r, 0, none⟩ (.map (some Bm))).setCell ⟨r, 1, none⟩ (.int .i64 T)).setCell ⟨r, 2, none⟩ (.slice q1 m c1)).setCell ⟨r, 3, none⟩ (.slice q2 ne c2)).setCell ⟨r, 4, none⟩ (.slice p4 n d4)).setCell ⟨r, 5, none⟩ (.slice p m d))
   (.agg #[.map (some Bm), .int .i64 T, .slice q1 m c1, .slice q2 ne c2, .slice p4 n d4, .slice p m d]) ars ps xs := by
 have hok : ∀ a ∈ ars, arrOkB a = true := by have h := progB_arrs hpb; simp only [arrsB, Bool.and_eq_true, List.all_eq_true] at h; exact h.1
 have R1 := E01.blk R0
 have hs01 := E01.size_le
 have hs12 := X12.size_le
 have hs24 := X24.size_le
 have EW : Ext w1 wr := Lv.ext0 hL (X12.trans X24) (fun b hb => by omega)
 have hl := lv_set6 w1 r (.map (some Bm)) (.int .i64 T) (.slice q1 m c1) (.slice q2 ne c2) (.slice p4 n d4) (.slice p m d)
 have hl2 := lv_set6 wr r (.map (some Bm)) (.int .i64 T) (.slice q1 m c1) (.slice q2 ne c2) (.slice p4 n d4) (.slice p m d)
 have hx6 := ext_both6 EW R1 (.map (some Bm)) (.int .i64 T) (.slice q1 m c1) (.slice q2 ne c2) (.slice p4 n d4) (.slice p m d)
 have hsz : ((((((w1.setCell ⟨r, 0, none⟩ (.map (some Bm))).setCell ⟨r, 1, none⟩ (.int .i64 T)).setCell ⟨r, 2, none⟩ (.slice q1 m c1)).setCell ⟨r, 3, none⟩ (.slice q2 ne c2)).setCell ⟨r, 4, none⟩ (.slice p4 n d4)).setCell ⟨r, 5, none⟩ (.slice p m d)).heap.size = w1.heap.size := by simp
 generalize ((((((w1.setCell ⟨r, 0, none⟩ (.map (some Bm))).setCell ⟨r, 1, none⟩ (.int .i64 T)).setCell ⟨r, 2, none⟩ (.slice q1 m c1)).setCell ⟨r, 3, none⟩ (.slice q2 ne c2)).setCell ⟨r, 4, none⟩ (.slice p4 n d4)).setCell ⟨r, 5, none⟩ (.slice p m d)) = Z at *
 generalize ((((((wr.setCell ⟨r, 0, none⟩ (.map (some Bm))).setCell ⟨r, 1, none⟩ (.int .i64 T)).setCell ⟨r, 2, none⟩ (.slice q1 m c1)).setCell ⟨r, 3, none⟩ (.slice q2 ne c2)).setCell ⟨r, 4, none⟩ (.slice p4 n d4)).setCell ⟨r, 5, none⟩ (.slice p m d)) = X at *
 have hom2 : Z.ownsMap Tryz.prog 9 rawE Bm 4 D := hom.kept hl.grownAt (by simp; omega)
 have hmi2 : MapIs Z D ars := hmi.move hok (fun b o x hx hc => hl.cellAt (E01.keep hc) (zero6_no R0 hx hc))
 have hev2 := hev.lvB hl (fun b hb => by omega)
 refine ⟨Z, W0.heap.size, w2.heap.size, Lo, Bm, D, q1, c1, q2, c2, p4, d4, p, d, ?_, hom2, hmi2, ?_, hx6, by omega, by omega, ?_, ?_, ?_⟩
 ·rw [hT, hm, hne, hn]
 ·rw [hne]; exact hev2
 ·rw [hn]
  exact IntsOwn.lvB (row_lv h4 hL hn8) hl2 (fun b hb => by omega)
 ·intro b hb
  rw [hn] at hb
  have := h4.block_lt b hb
  omega
 ·rw [hm, hT]
  refine (FsL.mono (hff.keep (fun g hc hg => hl2.block g hg (fun e => by have := (hC g hc).1; omega)) (fun b hb => ?_)) (fun g hg => (hC g hg).1)).stat (fun s subs h => h.lvB hl (fun b hb => by omega))
  obtain ⟨vs, ho, -⟩ := hff
  have := own_ge2 ho b hb
  exact hl2.block b this.2 (fun e => by omega)
end Go.Proofs.YtklehkkclojccaaGreat
/- The machine of a program: machineOf. No statement is proved here. -/
namespace Go.Proofs.YtklehkkclojccaaGreat
open Go.RowKit Go.Maps
set_option linter.unusedVariables false in
set_option linter.unusedSimpArgs false in
set_option maxRecDepth 100000 in
set_option maxHeartbeats 4000000 in
theorem machineOf_any (v : Value) (ars : List Arr) (ps : List Pt) (pm : Option Addr) (n cm : Nat) (xs : List Int) (w : World) (hp : PrR w v ars ps) (hn : xs.length = n) (hs : IntsAt w (.slice pm n cm) xs) :
  Calls Tryz.prog 60 #[v, .slice pm n cm] w fun e w' => (∃ v, e = .returned (.tuple #[v, .bool (memB ars ps xs)]) ∧ (memB ars ps xs = false → v = .agg #[.map none, .int .i64 0, .slice none 0 0, .slice none 0 0, .slice none 0 0, .slice none 0 0]) ∧ (memB ars ps xs = true → MachR w.heap.size w' v ars ps xs)) ∧ Ext w w' := by
 obtain ⟨qa, ca, qp, cp, rfl, -, -, ha, hps⟩ := hp.parts
 have HA := Lib.hid ha; have HPS := Lib.hid hps; have HN := Lib.hid hn; have HS := Lib.hid hs
 clear hp ha hps hn hs
 go_enter Tryz.func60, Tryz.ntmps60
 go_wp2_with (fail)
 obtain ⟨W0, hW0⟩ : ∃ W0, ((w.alloc (.cells #[.slice qa ars.length ca, .slice qp ps.length cp] 32)).alloc (.cells #[.map none, .int .i64 0, .slice none 0 0, .slice none 0 0, .slice none 0 0, .slice none 0 0] 87)) = W0 := ⟨_, rfl⟩
 have E0 : Hid (Ext w W0) := Lib.hid (by rw [← hW0]; exact ((Ext.refl w).alloc _).alloc _)
 have R0 := Lib.hid (show W0.heap[w.heap.size + 1]? = some (.cells #[.map none, .int .i64 0, .slice none 0 0, .slice none 0 0, .slice none 0 0, .slice none 0 0] 87 (0, 0)) by rw [← hW0]; exact blk_at (by simp))
 try rw [hW0]
 clear hW0
 refine (programOf_any qa qp _ ca _ cp ars ps _ rfl rfl (HA.out.ext E0.out) (HPS.out.ext E0.out)).mono ?_
 rintro e w1 ⟨⟨v, rfl, h0, h1⟩, hE⟩
 have E1 := Lib.hid (E0.out.trans hE); have R1 := Lib.hid (hE.blk R0.out)
 have HE01 := Lib.hid hE
 clear hE
 obtain ⟨pb, hpb⟩ : ∃ b, progB ars ps = b := ⟨_, rfl⟩
 rw [hpb] at h0 h1 ⊢
 have HPB := Lib.hid hpb
 clear hpb
 cases pb with
 | false =>
  have hv := h0 rfl
  subst hv
  have HM : Hid (memB ars ps xs = false) := Lib.hid (by unfold memB; rw [HPB.out]; simp)
  clear h0 h1
  have E2 := Lib.hid (E1.out.alloc (.cells #[.map none, .int .i64 0, .slice none 0 0, .slice none 0 0] 70)); have R2 := Lib.hid (blk_old (o := .cells #[.map none, .int .i64 0, .slice none 0 0, .slice none 0 0] 70) R1.out)
  go_upto_region 3 with (fail)
  generalize w1.alloc (.cells #[.map none, .int .i64 0, .slice none 0 0, .slice none 0 0] 70) = w2 at *
  have hl2 := lt_of_block R2.out
  obtain ⟨r0, r1, r2, r3, r4, r5, rf⟩ := blk6 R2.out
  have f0 := rf 0; have f1 := rf 1; have f2 := rf 2; have f3 := rf 3; have f4 := rf 4; have f5 := rf 5
  have HZ := Lib.hid (blk6_set (a' := .map none) (b' := .int .i64 0) (c' := .slice none 0 0) (d' := .slice none 0 0) (e' := .slice none 0 0) (f' := .slice none 0 0) R2.out)
  clear rf
  go_wp2
  have HX := Lib.hid (ext_set6 E2.out (g := w.heap.size + 1) (by omega) (.map none) (.int .i64 0) (.slice none 0 0) (.slice none 0 0) (.slice none 0 0) (.slice none 0 0))
  generalize ((((((w2.setCell ⟨w.heap.size + 1, 0, none⟩ (.map none)).setCell ⟨w.heap.size + 1, 1, none⟩ (.int .i64 0)).setCell ⟨w.heap.size + 1, 2, none⟩ (.slice none 0 0)).setCell ⟨w.heap.size + 1, 3, none⟩ (.slice none 0 0)).setCell ⟨w.heap.size + 1, 4, none⟩ (.slice none 0 0)).setCell ⟨w.heap.size + 1, 5, none⟩ (.slice none 0 0)) = w3 at *
  obtain ⟨q0, q1, q2, q3, q4, q5, -⟩ := blk6 HZ.out
  exact bodyPost_ret (v := .tuple #[.agg #[.map none, .int .i64 0, .slice none 0 0, .slice none 0 0, .slice none 0 0, .slice none 0 0], .bool false]) (by simp [results, Tryz.results60, go_sem, q0, q1, q2, q3, q4, q5]) rfl ⟨⟨_, by rw [HM.out], fun _ => rfl, fun h => by rw [HM.out] at h; cases h⟩, HX.out⟩
 | true =>
  obtain ⟨Bm, D, q1, c1, q2, c2, rfl, hBm, hom, hmi, hpo, hev⟩ := h1 rfl
  have HBM := Lib.hid hBm; have HOM := Lib.hid hom; have HMI := Lib.hid hmi; have HPO := Lib.hid hpo; have HEV := Lib.hid hev
  obtain ⟨T, hT⟩ : ∃ T, totN ars = T := ⟨_, rfl⟩
  rw [hT]
  have HT := Lib.hid hT
  obtain ⟨m, hm⟩ : ∃ m, ps.length = m := ⟨_, rfl⟩
  obtain ⟨ne, hne⟩ : ∃ m, (evsOf ars ps).length = m := ⟨_, rfl⟩
  rw [hm] at HPO ⊢
  rw [hne] at HEV ⊢
  have HM := Lib.hid hm; have HNE := Lib.hid hne
  clear h0 h1 hBm hom hmi hpo hev hT hm hne
  have hl1 := lt_of_block R1.out
  obtain ⟨vb, hvb⟩ : ∃ b, (valsB xs && decide ((xs.length : Int) = T)) = b := ⟨_, rfl⟩
  have HMB : Hid (memB ars ps xs = vb) := Lib.hid (by unfold memB; rw [HPB.out, HT.out, Bool.true_and]; exact hvb)
  have HVB := Lib.hid hvb
  clear hvb
  go_wp2_with (fail)
  refine (memValid_any pm n cm T xs _ HN.out (HS.out.ext (E1.out.alloc _))).mono ?_
  rw [HVB.out]
  rintro e w2 ⟨rfl, hE⟩
  have E2 := Lib.hid ((E1.out.alloc (.cells #[.map (some Bm), .int .i64 T, .slice q1 m c1, .slice q2 ne c2] 70)).trans hE)
  have R2 := Lib.hid (hE.blk (blk_old (o := .cells #[.map (some Bm), .int .i64 T, .slice q1 m c1, .slice q2 ne c2] 70) R1.out))
  have P2 := Lib.hid (hE.blk (blk_at (w := w1) (o := .cells #[.map (some Bm), .int .i64 T, .slice q1 m c1, .slice q2 ne c2] 70) rfl))
  have X12 := Lib.hid (((Ext.refl w1).alloc (.cells #[.map (some Bm), .int .i64 T, .slice q1 m c1, .slice q2 ne c2] 70)).trans hE)
  clear hE hl1
  cases vb
  rotate_left
  ·have hl2 := lt_of_block P2.out
   go_upto_region 4 with (fail)
   have HVP := HVB.out
   rw [Bool.and_eq_true, decide_eq_true_eq, HN.out] at HVP
   obtain ⟨hva, hnT⟩ := HVP
   have HNT := Lib.hid hnT; have HVA := Lib.hid hva
   have htb := totN_bd (ars := ars) (by have h := progB_arrs HPB.out; simp only [arrsB, Bool.and_eq_true, List.all_eq_true] at h; exact h.1)
   have hal := arrs_len (progB_arrs HPB.out)
   rw [HT.out] at htb
   have hn20 : n ≤ 1048576 := by omega
   clear hva hnT htb hal
   obtain ⟨b0, b1, b2, b3, -⟩ := blk4' P2.out
   go_cut [8] (fun s8 wc => ∃ (g8 : Nat) (p4 : Option Addr) (d4 : Nat), s8 = .pointer (some ⟨g8, 0, none⟩) ∧ wc.heap[g8]? = some (.cells #[.map (some Bm), .int .i64 T, .slice q1 m c1, .slice q2 ne c2, .slice p4 n d4, .slice none 0 0] 87 (0, 0)) ∧ IntsOwn w2.heap.size wc (.slice p4 n d4) xs ∧ (∀ b, (Value.slice p4 n d4).ownBlock = some b → b ≠ g8) ∧ Ext w2 wc ∧ w2.heap.size ≤ g8)
   case first =>
    go_region_with (first
     | (go_at_call 51; (with_reducible refine (cloneA_any pm n cm xs w2.drew HN.out (HS.out.ext E2.out.drew) hn20).mono ?_); rintro e w3 ⟨⟨p4, d4, rfl, h4⟩, hE⟩; have XE := (Ext.refl w2).drew.trans hE; have x0 := XE.keep b0; have x1 := XE.keep b1; have x2 := XE.keep b2; have x3 := XE.keep b3; have hl3 := Nat.lt_of_lt_of_le hl2 XE.size_le)
     | (go_at_call 51; (with_reducible refine (cloneA_any pm n cm xs (w2.alloc (.cells #[.map none, .int .i64 0, .slice none 0 0, .slice none 0 0, .slice none 0 0, .slice none 0 0] 87)).drew HN.out (HS.out.ext (E2.out.alloc _).drew) hn20).mono ?_); rintro e w3 ⟨⟨p4, d4, rfl, h4⟩, hE⟩; have XE := ((Ext.refl w2).alloc (.cells #[.map none, .int .i64 0, .slice none 0 0, .slice none 0 0, .slice none 0 0, .slice none 0 0] 87)).drew.trans hE; have x0 := XE.keep b0; have x1 := XE.keep b1; have x2 := XE.keep b2; have x3 := XE.keep b3; have hl3 := Nat.lt_of_lt_of_le hl2 XE.size_le; have Z3 := Lib.hid ((Ext.trans (Ext.refl _).drew hE).blk (blk_at (w := w2) (o := .cells #[.map none, .int .i64 0, .slice none 0 0, .slice none 0 0, .slice none 0 0, .slice none 0 0] 87) rfl)); obtain ⟨z0, z1, z2, z3, z4, z5, zf⟩ := blk6 Z3.out; have f0 := zf 0; have f1 := zf 1; have f2 := zf 2; have f3 := zf 3; have f4 := zf 4; have f5 := zf 5; clear zf)
     | fail)
    all_goals (try go_wp2_with (fail))
    all_goals go_meet
    all_goals first
     | (refine ⟨w3.heap.size, p4, d4, rfl, ?_, ?_, ?_, ?_, ?_⟩; (with_reducible exact blk_at rfl); (exact (IntsOwn.weak (B := w2.heap.size) h4 (Nat.le_refl _)).ext ((Ext.refl _).alloc _)); (exact fun b hb => by have := h4.block_lt b hb; omega); (exact XE.alloc _); (exact XE.size_le))
     | (refine ⟨w2.heap.size, p4, d4, rfl, ?_, ?_, ?_, ?_, ?_⟩; (with_reducible exact blk6_set Z3.out); (exact IntsOwn.weak (IntsOwn.lvB h4 (lv_set6 w3 w2.heap.size _ _ _ _ _ _) (fun b hb => by subst hb; simp)) (by simp)); (exact fun b hb e => by have := (h4.lt b hb).1; simp at this; omega); (exact ext_set6 XE (Nat.le_refl _) _ _ _ _ _ _); (exact Nat.le_refl _))
   case rest =>
    obtain ⟨g8, p4, d4, rfl, hb8, h4, hne8, hX, hge8⟩ := hcut
    have B8 := Lib.hid hb8; have H4 := Lib.hid h4; have N8 := Lib.hid hne8; have X24 := Lib.hid hX
    have P4 := Lib.hid (hX.blk P2.out); have R4 := Lib.hid (hX.blk R2.out)
    have hl8 := lt_of_block hb8
    have hlp := lt_of_block P4.out
    clear hb8 h4 hne8 hX b0 b1 b2 b3
    obtain ⟨Lo, hLo⟩ : ∃ L, wc.heap.size = L := ⟨_, rfl⟩
    have HLO := Lib.hid hLo
    clear hLo
    obtain ⟨b0, b1, b2, b3, -⟩ := blk4' P4.out
    obtain ⟨i0, hi, hz0, hz1, hz2⟩ := info_parts infoFs
    go_wp2
    go_loopw [34] (fun iv wr => ∃ (k : Nat) (p : Option Addr) (d : Nat) (C : Nat → Prop), k ≤ m ∧ iv = .int .i64 k ∧ wr.heap[g8]? = some (.cells #[.map (some Bm), .int .i64 T, .slice q1 m c1, .slice q2 ne c2, .slice p4 n d4, .slice p k d] 87 (0, 0)) ∧ FsL C W0.heap.size w1 (some Bm) T Lo wr (.slice p k d) (ps.take k) ∧
     (∀ g, C g → Lo ≤ g ∧ g < wr.heap.size) ∧ (∀ b, (Value.slice p k d).ownBlock = some b → ¬ C b) ∧ Lv (fun b => b = g8) wc wr) (fun iv _ => m - (intOf iv).toNat)
    case atStart => exact ⟨0, none, 0, fun _ => False, by omega, rfl, B8.out, FsL.nil _ _ _ _ _ _ _, fun _ h => h.elim, fun b h => by simp [Value.ownBlock] at h, Lv.refl _ _⟩
    case round =>
     obtain ⟨k, p, d, C, hk, rfl, hg8, hff, hc1, hc2, hL⟩ := hrel
     have G8 := Lib.hid hg8; have HFF := Lib.hid hff; have HC1 := Lib.hid hc1; have HC2 := Lib.hid hc2; have HL := Lib.hid hL
     have hl8r := lt_of_block hg8
     have PR := Lib.hid (hL.heap P4.out (by omega))
     have EW : Hid (Ext w1 wr) := Lib.hid (Lv.ext0 hL (X12.out.trans X24.out) (fun b hb => by omega))
     clear hg8 hff hc1 hc2 hL
     by_cases hlt : k < m
     ·obtain ⟨x, hx⟩ := get_some (xs := ps) (k := k) (by rw [HM.out]; exact hlt)
      obtain ⟨-, hm4, hpb4, -⟩ := progB_inv HPB.out
      have hx4 := (partB_len (hpb4 x (List.mem_of_getElem? hx))).2
      rw [HM.out] at hm4
      obtain ⟨g, u0, u1, rfl, hgl, c0, c1', hpart⟩ := (PartsOwn.at2 (PartsOwn.ext HPO.out EW.out) HM.out hx)
      obtain ⟨g', u0', u1', hge, -, d0, d1, hpart1⟩ := (HPO.out).at2 HM.out hx
      cases hge
      have k0 := EW.out.keep d0
      have k1 := EW.out.keep d1
      rw [c0] at k0
      rw [c1'] at k1
      cases k0
      cases k1
      obtain ⟨hpt, hss⟩ := hpart1
      obtain ⟨qb, cb, rfl⟩ := hss.form
      obtain ⟨qx, cx, rfl⟩ := hpt.form
      obtain ⟨nb, hnb⟩ : ∃ n, x.2.length = n := ⟨_, rfl⟩
      rw [hnb] at hss hx4 c1'
      have HSS := Lib.hid hss; have HNB := Lib.hid hnb; have HX := Lib.hid hx
      clear hpart hpt hss hnb hx d0 d1 hpb4
      obtain ⟨-, -, -, -, -, g5, -⟩ := blk6 G8.out
      obtain ⟨y0, y1, -, -, -⟩ := blk4' PR.out
      have hlpr := lt_of_block PR.out
      obtain ⟨vs, ho, he⟩ := HFF.out
      have HTL : Hid ((ps.take k).length = k) := Lib.hid (by rw [List.length_take, HM.out]; omega)
      rw [HTL.out] at ho
      have HO := Lib.hid ho; have HHE := Lib.hid he
      have hvl : vs.length = k := by have := ho.1; omega
      clear ho he
      have hszL : Lo ≤ wr.heap.size := by have := HL.out.size; rw [HLO.out] at this; exact this
      clear b0 b1 b2 b3
      have hg8L : g8 < Lo := by have := HLO.out; omega
      have HN8 : Hid (some g8 ≠ (Value.slice p k d).ownBlock) := Lib.hid (fun e => by have := (own_ge2 HO.out g8 e.symm).1; omega)
      go_upto_region 8 with (fail)
      go_region_law (first
       | (refine step_append_at _ rfl (.tmp 39) (.tmp 45) 85 rfl Lo 186 i0 (.slice none 0 0) 1 24 underFs2 hi hz0 hz1 hz2 rfl (by decide) (.slice p k d) k vs rfl HOW.out ⟨w3.heap.size, 0, none⟩ 1 1 [.slice pf nb cf] rfl rfl (one_cell rfl) (by intro u hu; simp at hu; subst hu; rfl) (by unfold maxLen; omega) (by omega) (by simp; omega) ?_; intro v' w5 hown5 hgr5 hnil5 hat5; obtain ⟨p5, d5, rfl⟩ := own_form2 hown5; have G5 := Lib.hid (grownBy_blk hgr5 (blk_old (o := .cells #[.slice pf nb cf] 186) (XE.blk G8.out)) HN8.out); obtain ⟨-, -, -, -, -, e5, ef⟩ := blk6 G5.out; have ef5 := ef 5; clear ef; have hl85 := lt_of_block G5.out)
       | (go_simp; go_wp2_with (go_at_call 110; (with_reducible refine (compileBody_any W0.heap.size w1 (some Bm) T qb nb cb x.2 _ HNB.out hx4 HSS.out (EW.out.alloc _).drew).mono ?_); rintro e w3 ⟨⟨f, C1, rfl, hf, hC1⟩, hE3⟩; obtain ⟨pf, cf, rfl⟩ := hf.form; rw [HNB.out] at hf ⊢; have XE := ((Ext.refl wr).alloc _).drew.trans hE3; have x5 := XE.keep g5; have hl83 := Nat.lt_of_lt_of_le hl8r XE.size_le; have hLs := XE.size_le; have HOW := Lib.hid (ownsRow_ext HO.out (XE.alloc (.cells #[.slice pf nb cf] 186)))))
       | fail)
      all_goals
       obtain ⟨C2, r1, r2, r3, r4, r5⟩ := mach_step HL.out HLO.out hg8L G5.out HC1.out HC2.out HO.out hvl HTL.out HHE.out XE hf hC1 hgr5 hown5 hat5
       rw [← take_next HX.out] at r2
       have R1' := Lib.hid r1; have R2' := Lib.hid r2; have R3' := Lib.hid r3; have R4' := Lib.hid r4; have R5' := Lib.hid r5
       clear r1 r2 r3 r4 r5 hgr5 hown5 hat5 hnil5 hf hC1
       generalize w5.setCell ⟨g8, 5, none⟩ (.slice p5 (k + 1) d5) = w6 at *
       go_wp2
       go_roundw
       case rel => exact ⟨k + 1, p5, d5, C2, by omega, by go_num, R1'.out, R2'.out, R3'.out, R4'.out, R5'.out⟩
       case measure => simp [intOf]; omega
     ·obtain rfl : k = m := by omega
      have hrw := lt_of_block R2.out
      have RR := Lib.hid (HL.out.heap R4.out (by omega))
      obtain ⟨r0, r1, r2, r3, r4, r5, rf⟩ := blk6 RR.out
      have f0 := rf 0; have f1 := rf 1; have f2 := rf 2; have f3 := rf 3; have f4 := rf 4; have f5 := rf 5
      obtain ⟨s0, s1, s2, s3, s4, s5, -⟩ := blk6 G8.out
      have hlr := lt_of_block RR.out
      have HFS : Hid (FsL C W0.heap.size w1 (some Bm) T Lo wr (.slice p k d) ps) := Lib.hid (by have h := HFF.out; rwa [List.take_of_length_le (by rw [HM.out]; omega)] at h)
      have hE0 := E0.out.size_le
      have hR0 := lt_of_block R0.out
      have HMR := Lib.hid (machR_out (w := w) (K := W0.heap.size) (c1 := c1) (q1 := q1) rfl hR0 (Nat.le_succ _) R0.out HE01.out HPB.out HBM.out HOM.out HMI.out HEV.out HT.out HM.out HNE.out HN.out X12.out X24.out HLO.out HL.out hge8 H4.out N8.out HFS.out HC1.out rfl)
      have HZ := Lib.hid (blk6_set (a' := .map (some Bm)) (b' := .int .i64 T) (c' := .slice q1 k c1) (d' := .slice q2 ne c2) (e' := .slice p4 n d4) (f' := .slice p k d) RR.out)
      have HX := Lib.hid (ext_set6 (Lv.ext0 HL.out (E2.out.trans X24.out) (fun b hb => by have := E2.out.size_le; omega)) (g := w.heap.size + 1) (by omega) (.map (some Bm)) (.int .i64 T) (.slice q1 k c1) (.slice q2 ne c2) (.slice p4 n d4) (.slice p k d))
      clear rf
      go_wp2
      generalize ((((((wr.setCell ⟨w.heap.size + 1, 0, none⟩ (.map (some Bm))).setCell ⟨w.heap.size + 1, 1, none⟩ (.int .i64 T)).setCell ⟨w.heap.size + 1, 2, none⟩ (.slice q1 k c1)).setCell ⟨w.heap.size + 1, 3, none⟩ (.slice q2 ne c2)).setCell ⟨w.heap.size + 1, 4, none⟩ (.slice p4 n d4)).setCell ⟨w.heap.size + 1, 5, none⟩ (.slice p k d)) = w3 at *
      obtain ⟨z0, z1, z2, z3, z4, z5, -⟩ := blk6 HZ.out
      exact bodyPost_ret (v := .tuple #[.agg #[.map (some Bm), .int .i64 T, .slice q1 k c1, .slice q2 ne c2, .slice p4 n d4, .slice p k d], .bool true]) (by simp [results, Tryz.results60, go_sem, z0, z1, z2, z3, z4, z5]) rfl ⟨⟨_, by rw [HMB.out], (fun h => by rw [HMB.out] at h; cases h), fun _ => HMR.out⟩, HX.out⟩
  have HM := Lib.hid HMB.out
  go_upto_region 3 with (fail)
  have hl2 := lt_of_block R2.out
  obtain ⟨r0, r1, r2, r3, r4, r5, rf⟩ := blk6 R2.out
  have f0 := rf 0; have f1 := rf 1; have f2 := rf 2; have f3 := rf 3; have f4 := rf 4; have f5 := rf 5
  have HZ := Lib.hid (blk6_set (a' := .map none) (b' := .int .i64 0) (c' := .slice none 0 0) (d' := .slice none 0 0) (e' := .slice none 0 0) (f' := .slice none 0 0) R2.out)
  clear rf
  go_wp2
  have HX := Lib.hid (ext_set6 E2.out (g := w.heap.size + 1) (by omega) (.map none) (.int .i64 0) (.slice none 0 0) (.slice none 0 0) (.slice none 0 0) (.slice none 0 0))
  generalize ((((((w2.setCell ⟨w.heap.size + 1, 0, none⟩ (.map none)).setCell ⟨w.heap.size + 1, 1, none⟩ (.int .i64 0)).setCell ⟨w.heap.size + 1, 2, none⟩ (.slice none 0 0)).setCell ⟨w.heap.size + 1, 3, none⟩ (.slice none 0 0)).setCell ⟨w.heap.size + 1, 4, none⟩ (.slice none 0 0)).setCell ⟨w.heap.size + 1, 5, none⟩ (.slice none 0 0)) = w3 at *
  obtain ⟨q0, q1, q2, q3, q4, q5, -⟩ := blk6 HZ.out
  exact bodyPost_ret (v := .tuple #[.agg #[.map none, .int .i64 0, .slice none 0 0, .slice none 0 0, .slice none 0 0, .slice none 0 0], .bool false]) (by simp [results, Tryz.results60, go_sem, q0, q1, q2, q3, q4, q5]) rfl ⟨⟨_, by rw [HM.out], fun _ => rfl, fun h => by rw [HM.out] at h; cases h⟩, HX.out⟩
theorem mach_form {b : Bool} {L : Nat} {W : World} {v : Value} {ars : List Arr} {ps : List Pt} {xs : List Int} (h0 : b = false → v = .agg #[.map none, .int .i64 0, .slice none 0 0, .slice none 0 0, .slice none 0 0, .slice none 0 0]) (h1 : b = true → MachR L W v ars ps xs) :
  ∃ mo T q1 n1 c1 q2 n2 c2 q3 n3 c3 q4 n4 c4, v = .agg #[.map mo, .int .i64 T, .slice q1 n1 c1, .slice q2 n2 c2, .slice q3 n3 c3, .slice q4 n4 c4] := by
 cases b with
 | false => exact ⟨_, _, _, _, _, _, _, _, _, _, _, _, _, _, h0 rfl⟩
 | true =>
  obtain ⟨Z, B, M0, Lo, Bm, D, q1, c1, q2, c2, pm, cm, pf, cf, e, -⟩ := h1 rfl
  exact ⟨_, _, _, _, _, _, _, _, _, _, _, _, _, _, e⟩
end Go.Proofs.YtklehkkclojccaaGreat
