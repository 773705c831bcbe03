/- The texts E3, joined. No statement is proved here. -/
import Derived.Test.YtmhldhjpfeageabGreatK43
import Derived.Test.YtmhldhjpfeageabGreatK21
import Derived.Test.YtmhldhjpfeageabGreatK09
/- The formulas of a body and of a machine. No statement is proved here. -/
namespace Go.Proofs.YtmhldhjpfeageabGreat
open Go.RowKit Go.Maps
theorem StmsOwn.at3 {B n c i : Nat} {w : World} {p : Option Addr} {ss : List St} {s : St} (h : StmsOwn B w (.slice p n c) ss) (hn : ss.length = n) (hi : ss[i]? = some s) :
  ∃ g u0 u1 u2, p = some ⟨g, 0, none⟩ ∧ g < w.heap.size ∧ w.cell? ⟨g, i * 3, none⟩ = some u0 ∧ w.cell? ⟨g, i * 3 + 1, none⟩ = some u1 ∧ w.cell? ⟨g, i * 3 + 2, none⟩ = some u2 ∧ StmR B w u0 u1 u2 s := by
 obtain ⟨vs, ho, he⟩ := h
 obtain ⟨u0, u1, u2, h0, h1, h2, hr⟩ := he i s hi
 have ho2 := ho.2
 rcases ho2 with ⟨e, hz⟩ | ⟨g, cap, cur, e, _, hg, _⟩
 ·have := (List.getElem?_eq_some_iff.1 hi).1; omega
 ·cases e
  have hc : ∀ j u, vs[j]? = some u → w.cell? ⟨g, j, none⟩ = some u := fun j u hu => by
   have h := World.ownsRow.cells ho (g := g) rfl j u hu
   have hadd : (⟨g, 0, none⟩ : Addr).add j = ⟨g, j, none⟩ := by unfold Addr.add; split <;> simp_all
   rw [hadd] at h
   exact h
  exact ⟨g, u0, u1, u2, rfl, lt_of_block hg, hc _ _ h0, hc _ _ h1, hc _ _ h2, hr⟩
theorem PartsOwn.at2 {B n c i : Nat} {w : World} {p : Option Addr} {ps : List Pt} {x : Pt} (h : PartsOwn B w (.slice p n c) ps) (hn : ps.length = n) (hi : ps[i]? = some x) :
  ∃ g u0 u1, p = some ⟨g, 0, none⟩ ∧ g < w.heap.size ∧ w.cell? ⟨g, i * 2, none⟩ = some u0 ∧ w.cell? ⟨g, i * 2 + 1, none⟩ = some u1 ∧ PartP B w u0 u1 x := by
 obtain ⟨vs, ho, he⟩ := h
 obtain ⟨u0, u1, h0, h1, hr⟩ := he i x hi
 have ho2 := ho.2
 rcases ho2 with ⟨e, hz⟩ | ⟨g, cap, cur, e, _, hg, _⟩
 ·have := (List.getElem?_eq_some_iff.1 hi).1; omega
 ·cases e
  have hc : ∀ j u, vs[j]? = some u → w.cell? ⟨g, j, none⟩ = some u := fun j u hu => by
   have h := World.ownsRow.cells ho (g := g) rfl j u hu
   have hadd : (⟨g, 0, none⟩ : Addr).add j = ⟨g, j, none⟩ := by unfold Addr.add; split <;> simp_all
   rw [hadd] at h
   exact h
  exact ⟨g, u0, u1, rfl, lt_of_block hg, hc _ _ h0, hc _ _ h1, hr⟩
theorem infoFor : (Tryz.prog.info? 185).map (fun i => (i.zero, i.size, i.bytes)) = some (some (.nilFunc), 1, 8) := by kernel_rfl
theorem underFor : Tryz.prog.underlying 180 = some (.slice 185) := by kernel_rfl
theorem infoFs : (Tryz.prog.info? 180).map (fun i => (i.zero, i.size, i.bytes)) = some (some (.slice none 0 0), 1, 24) := by kernel_rfl
def FfL (C : Nat → Prop) (B : Nat) (w1 : World) (mo : Option Nat) (T : Int) (B' : Nat) (W : World) (v : Value) (ss : List St) : Prop :=
 ∃ vs, W.ownsRow B' 185 1 v ss.length vs ∧ ∀ (i : Nat) (s : St), ss[i]? = some s → ∃ f, vs[i]? = some f ∧ FnR C B w1 mo T W f s.2.2
theorem FfL.nil (C : Nat → Prop) (B : Nat) (w1 : World) (mo : Option Nat) (T : Int) (B' : Nat) (W : World) : FfL C B w1 mo T B' W (.slice none 0 0) [] := ⟨[], World.ownsRow_nil _ _ _ _, fun i s h => by simp at h⟩
theorem FfL.ext {C : Nat → Prop} {B : Nat} {w1 : World} {mo : Option Nat} {T : Int} {B' : Nat} {W W' : World} {v : Value} {ss : List St} (h : FfL C B w1 mo T B' W v ss) (hE : Ext W W') : FfL C B w1 mo T B' W' v ss := by
 obtain ⟨vs, h1, h2⟩ := h
 exact ⟨vs, ownsRow_ext h1 hE, fun i s hi => by obtain ⟨f, a, b⟩ := h2 i s hi; exact ⟨f, a, b.ext hE⟩⟩
theorem FfL.form {C : Nat → Prop} {B : Nat} {w1 : World} {mo : Option Nat} {T : Int} {B' : Nat} {W : World} {v : Value} {ss : List St} (h : FfL C B w1 mo T B' W v ss) : ∃ p c, v = .slice p ss.length c := by
 obtain ⟨vs, ho, _⟩ := h
 rcases ho.2 with ⟨rfl, hn⟩ | ⟨g, cap, cur, rfl, _⟩
 ·exact ⟨none, 0, by rw [hn]⟩
 ·exact ⟨_, _, rfl⟩
theorem keepC_grown {C : Nat → Prop} {W W1 W2 : World} {r : Option Nat} (hE : Ext W W1) (hg : W1.grownBy W2 r) (hr : ∀ b, r = some b → ¬ C b) : KeepC C W W2 := fun g hc hl => (hg.block g (Nat.lt_of_lt_of_le hl hE.size_le) (fun e => hr g e.symm hc)).trans (hE.block g hl)
theorem FfL.push {C C1 C2 : Nat → Prop} {B : Nat} {w1 : World} {mo : Option Nat} {T : Int} {B' k : Nat} {W W3 W5 : World} {v' f : Value} {ss : List St} {s : St} {vs : List Value} (hk : ss.length = k) (hvl : vs.length = k) (he : ∀ (i : Nat) (s : St), ss[i]? = some s → ∃ f, vs[i]? = some f ∧ FnR C B w1 mo T W f s.2.2)
  (hK : KeepC C W W5) (hf : FnR C1 B w1 mo T W3 f s.2.2) (hK1 : KeepC C1 W3 W5) (h1 : ∀ g, C g → C2 g) (h2 : ∀ g, C1 g → C2 g) (ho : W5.ownsRow B' 185 1 v' (k + 1) (vs ++ [f])) : FfL C2 B w1 mo T B' W5 v' (ss ++ [s]) := by
 refine ⟨vs ++ [f], by rw [List.length_append, hk]; exact ho, fun i x hi => ?_⟩
 rcases Nat.lt_or_ge i k with hlt | hge
 ·rw [List.getElem?_append_left (by omega)] at hi
  obtain ⟨f0, a, b⟩ := he i x hi
  exact ⟨f0, by rw [List.getElem?_append_left (by omega)]; exact a, (b.keep hK).mono h1⟩
 ·rw [List.getElem?_append_right (by omega)] at hi
  have hi0 : i = k := by
   rcases Nat.eq_or_lt_of_le hge with h | h
   ·exact h.symm
   ·rw [List.getElem?_eq_none (by simp; omega)] at hi; cases hi
  subst hi0
  rw [hk, Nat.sub_self] at hi
  simp at hi
  subst hi
  exact ⟨f, by rw [List.getElem?_append_right (by omega)]; simp [hvl], (hf.keep hK1).mono h2⟩
theorem FfL.mono {C C2 : Nat → Prop} {B : Nat} {w1 : World} {mo : Option Nat} {T : Int} {B' : Nat} {W : World} {v : Value} {ss : List St} (h : FfL C B w1 mo T B' W v ss) (hC : ∀ g, C g → C2 g) : FfL C2 B w1 mo T B' W v ss := by
 obtain ⟨vs, h1, h2⟩ := h
 exact ⟨vs, h1, fun i s hi => by obtain ⟨f, a, b⟩ := h2 i s hi; exact ⟨f, a, b.mono hC⟩⟩
theorem own_form2 {w : World} {B k : Nat} {t : TypeId} {v : Value} {xs : List Value} (h : w.ownsRow B t 1 v (k + 1) xs) : ∃ p c, v = .slice p (k + 1) c := by
 rcases h.2 with ⟨-, hn0⟩ | ⟨g, cap, cur, e, _⟩
 ·omega
 ·exact ⟨_, _, e⟩
theorem own_ge2 {w : World} {B n : Nat} {t : TypeId} {v : Value} {xs : List Value} (h : w.ownsRow B t 1 v n xs) : ∀ b, v.ownBlock = some b → B ≤ b ∧ b < w.heap.size := by
 intro b hb
 rcases h.2 with ⟨rfl, -⟩ | ⟨g, cap, cur, rfl, hge, hg, _⟩
 ·simp [Value.ownBlock] at hb
 ·simp [Value.ownBlock] at hb; subst hb; exact ⟨hge, lt_of_block hg⟩
set_option linter.unusedVariables false in
set_option linter.unusedSimpArgs false in
set_option maxRecDepth 100000 in
set_option maxHeartbeats 4000000 in
theorem compileBody_any (B : Nat) (w1 : World) (mo : Option Nat) (T : Int) (q : Option Addr) (n c : Nat) (ss : List St) (w : World) (hn : ss.length = n) (hn4 : n ≤ 4) (hs : StmsOwn B w1 (.slice q n c) ss) (hE : Ext w1 w) :
  Calls Tryz.prog 97 #[.agg #[.map mo, .int .i64 T], .slice q n c] w fun e w' => (∃ v' C, e = .returned v' ∧ FfL C B w1 mo T w.heap.size w' v' ss ∧ ∀ g, C g → w.heap.size ≤ g ∧ g < w'.heap.size) ∧ Ext w w' := by
 obtain ⟨i0, hi, hz0, hz1, hz2⟩ := info_parts infoFor
 have HN := Lib.hid hn; have HS := Lib.hid hs; have HE1 := Lib.hid hE
 clear hn hs hE
 go_enter Tryz.func97, Tryz.ntmps97
 go_wp2
 obtain ⟨W0, hW0⟩ : ∃ W0, w.alloc (.cells #[.map mo, .int .i64 T] 71) = W0 := ⟨_, rfl⟩
 have E0 : Hid (Ext w W0) := Lib.hid (by rw [← hW0]; exact (Ext.refl w).alloc _)
 have B0 := Lib.hid (show W0.heap[w.heap.size]? = some (.cells #[.map mo, .int .i64 T] 71 (0, 0)) by rw [← hW0]; exact blk_at rfl)
 have hz : W0.heap.size = w.heap.size + 1 := by rw [← hW0]; simp
 rw [hW0]
 clear hW0
 go_loopw [5, 10] (fun lv iv wr => ∃ (k : Nat) (p : Option Addr) (d : Nat) (C : Nat → Prop), k ≤ n ∧ iv = .int .i64 k ∧ lv = .slice p k d ∧ FfL C B w1 mo T (w.heap.size + 1) wr (.slice p k d) (ss.take k) ∧ (∀ g, C g → w.heap.size + 1 ≤ g ∧ g < wr.heap.size) ∧ (∀ b, (Value.slice p k d).ownBlock = some b → ¬ C b) ∧ Ext W0 wr) (fun _ iv _ => n - (intOf iv).toNat)
 case atStart => exact ⟨0, none, 0, fun _ => False, by omega, rfl, rfl, FfL.nil _ _ _ _ _ _ _, fun _ h => h.elim, fun b h => by simp [Value.ownBlock] at h, Ext.refl _⟩
 case round =>
  obtain ⟨k, p, d, C, hk, rfl, rfl, hff, hc1, hc2, hE⟩ := hrel
  have HFF := Lib.hid hff; have HC1 := Lib.hid hc1; have HC2 := Lib.hid hc2; have HE := Lib.hid hE
  obtain ⟨y0, y1, -, -⟩ := blk2 (hE.blk B0.out)
  clear hff hc1 hc2 hE
  by_cases hlt : k < n
  ·obtain ⟨s, hs⟩ := get_some (xs := ss) (k := k) (by rw [HN.out]; exact hlt)
   obtain ⟨g, u0, u1, u2, rfl, hg, c0, c1, c2, hst⟩ := (HS.out.ext (HE1.out.trans (E0.out.trans HE.out))).at3 HN.out hs
   obtain ⟨g', u0', u1', u2', hge, -, d0, d1, d2, hst0⟩ := HS.out.at3 HN.out hs
   cases hge
   have k0 := (HE1.out.trans (E0.out.trans HE.out)).keep d0
   have k1 := (HE1.out.trans (E0.out.trans HE.out)).keep d1
   have k2 := (HE1.out.trans (E0.out.trans HE.out)).keep d2
   rw [c0] at k0
   rw [c1] at k1
   rw [c2] at k2
   cases k0
   cases k1
   cases k2
   obtain ⟨rfl, -, hln, hnd⟩ := hst0
   obtain ⟨pl, cl, rfl⟩ := hln.form
   obtain ⟨tn, pn, rfl⟩ := hnd.iface
   have HND := Lib.hid hnd; have HX := Lib.hid hs
   have hl0 : w.heap.size < wr.heap.size := by have := HE.out.size_le; omega
   clear hst hln hnd hs d0 d1 d2
   go_wp2_with (fail)
   refine (compile_any HND.out mo T _).mono ?_
   rintro e w3 ⟨⟨f, rfl, hf⟩, hE3⟩
   obtain ⟨kf, cf, rfl⟩ := hf.form
   have X3 := Lib.hid (((Ext.refl wr).alloc _).trans hE3)
   have hz3 := hE3.size_le
   have hz4 : wr.heap.size + 1 ≤ w3.heap.size := by simp at hz3; omega
   have hzr := HE.out.size_le
   have HF := Lib.hid hf
   clear hE3 hf c0 c1 c2 y0 y1
   obtain ⟨vs, ho, he⟩ := HFF.out
   have HTL : Hid ((ss.take k).length = k) := Lib.hid (by rw [List.length_take, HN.out]; omega)
   rw [HTL.out] at ho
   have HO := Lib.hid (ownsRow_ext ho (X3.out.alloc (.cells #[.func (.func kf) #[] cf] 185)))
   have HHE := Lib.hid he
   have hvl : vs.length = k := by have := ho.1; omega
   clear ho he
   go_wp2_with (at_builtin; refine wpList_append_own_at _ rfl (.tmp 14) (.tmp 19) 180 rfl (w.heap.size + 1) 185 i0 .nilFunc 1 8 underFor hi hz0 hz1 hz2 rfl (by decide) (.slice p k d) k vs rfl HO.out ⟨w3.heap.size, 0, none⟩ 1 1 [.func (.func kf) #[] cf] rfl rfl ?c1 ?c2 ?c3 ?c4 ?c5 ?_)
   case c1 => exact cell_one_new _ _ _
   case c2 => intro u hu; simp at hu; subst hu; rfl
   case c3 => unfold maxLen; omega
   case c4 => omega
   case c5 => simp; omega
   intro v' w5 hown' hgrow hnil hloc
   have hob := own_ge2 HO.out
   have hob2 := HFF.out
   obtain ⟨vsx, hox, -⟩ := hob2
   have hob3 := own_ge2 hox
   obtain ⟨p', d', rfl⟩ := own_form2 hown'
   have hff' := FfL.push (C2 := fun g => C g ∨ ((wr.alloc (.cells #[.string s.1, .slice pl s.2.1.length cl, .iface tn pn] 161)).heap.size ≤ g ∧ g < w3.heap.size)) HTL.out hvl HHE.out
    (keepC_grown (X3.out.alloc (.cells #[.func (.func kf) #[] cf] 185)) hgrow HC2.out) HF.out (keepC_grown ((Ext.refl w3).alloc (.cells #[.func (.func kf) #[] cf] 185)) hgrow (fun b hb h => by
     have h1 := (hob3 b hb).2
     have h2 := h.1
     simp at h2
     omega)) (fun g h => .inl h) (fun g h => .inr h) hown'
   rw [← take_next HX.out] at hff'
   have HFF' := Lib.hid hff'
   have hsz5 : w3.heap.size + 1 ≤ w5.heap.size := by have := hgrow.size; simpa using this
   have HE' : Hid (Ext W0 w5) := Lib.hid ((HE.out.trans (X3.out.alloc (.cells #[.func (.func kf) #[] cf] 185))).grown hgrow (fun r hr => by have := (hob3 r hr).1; omega))
   have HC1' : Hid (∀ g, (C g ∨ ((wr.alloc (.cells #[.string s.1, .slice pl s.2.1.length cl, .iface tn pn] 161)).heap.size ≤ g ∧ g < w3.heap.size)) → w.heap.size + 1 ≤ g ∧ g < w5.heap.size) := Lib.hid (fun g h => by
    rcases h with h | ⟨h1, h2⟩
    ·have := HC1.out g h; omega
    ·simp at h1; omega)
   have HC2' : Hid (∀ b, (Value.slice p' (k + 1) d').ownBlock = some b → ¬ (C b ∨ ((wr.alloc (.cells #[.string s.1, .slice pl s.2.1.length cl, .iface tn pn] 161)).heap.size ≤ b ∧ b < w3.heap.size))) := Lib.hid (fun b hb h => by
    rcases hloc with e | e
    ·rw [e] at hb
     rcases h with h | ⟨h1, h2⟩
     ·exact HC2.out b hb h
     ·have := (hob3 b hb).2; simp at h1; omega
    ·rw [e] at hb
     simp only [Option.some.injEq] at hb
     rcases h with h | ⟨h1, h2⟩
     ·have := (HC1.out b h).2; omega
     ·omega)
   clear hff' hob hob3 hox hgrow hloc hown' hnil hz3 HF HFF HHE HO
   go_wp2
   go_roundw
   case rel => exact ⟨k + 1, p', d', _, by omega, by go_num, rfl, HFF'.out, HC1'.out, HC2'.out, HE'.out⟩
   case measure => simp [intOf]; omega
  ·obtain rfl : k = n := by omega
   have HR : Hid (FfL (fun g => w.heap.size ≤ g ∧ g < wr.heap.size) B w1 mo T w.heap.size wr (.slice p k d) ss) := Lib.hid (by
    have h := HFF.out
    rw [List.take_of_length_le (by rw [HN.out]; omega)] at h
    obtain ⟨vs, h1, h2⟩ := h
    exact FfL.mono ⟨vs, ownsRow_weak h1 (by omega), h2⟩ (fun g hg => by have := HC1.out g hg; omega))
   go_wp2
   go_ret
   exact ⟨⟨_, _, rfl, HR.out, fun g h => h⟩, E0.out.trans HE.out⟩
end Go.Proofs.YtmhldhjpfeageabGreat
