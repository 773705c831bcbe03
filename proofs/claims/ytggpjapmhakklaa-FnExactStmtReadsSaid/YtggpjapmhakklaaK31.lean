/- The texts Rb, joined. No statement is proved here. -/
import Derived.Test.YtggpjapmhakklaaK49
import Derived.Test.YtggpjapmhakklaaK29
import Derived.Test.YtggpjapmhakklaaK30
import Derived.Test.YtggpjapmhakklaaK40
import Derived.Test.YtggpjapmhakklaaK35
/- StmtReads of the program. (Written by rb.py.) No statement is proved here. -/
namespace Go.Proofs.Ytggpjapmhakklaa
open Go.RowKit Go.Maps
attribute [local go_sem] Oper.semAt_some

theorem PairsF.pushM {α : Type} {T : TypeId} {R : Nat → World → Value → Value → α → List Nat → Prop} (hR : ∀ {B w w' u0 u1 x F G}, R B w u0 u1 x F → Kp G w w' → (∀ y ∈ F, y ∉ G) → R B w' u0 u1 x F) {B n : Nat} {w w' : World} {v v' u0 u1 : Value} {xs : List α} {x : α} {F Fx : List Nat} {vs : List Value} {Fs : List (List Nat)}
    (hxn' : xs.length = n) (hl : Fs.length = xs.length) (hF : F = v.ownBlock.toList ++ Fs.flatten) (hn : F.Nodup)
    (he : ∀ i x, xs[i]? = some x → ∃ u0 u1 Fi, vs[i * 2]? = some u0 ∧ vs[i * 2 + 1]? = some u1 ∧ Fs[i]? = some Fi ∧ R B w u0 u1 x Fi) (hvl : vs.length = n * 2)
    (ho' : w'.ownsRow B T 2 v' (n + 1) (vs ++ [u0, u1])) (hg : w.grownBy w' v.ownBlock) (hat : v'.ownBlock = v.ownBlock ∨ v'.ownBlock = some w.heap.size)
    (hx : R B w u0 u1 x Fx) (hxn : Fx.Nodup) (hxd : ∀ y ∈ Fx, y ∉ F) (hFlt : ∀ y ∈ F, y < w.heap.size) (hxlt : ∀ y ∈ Fx, y < w.heap.size) :
    ∃ F', PairsF T R B w' v' (xs ++ [x]) F' ∧ ∀ y ∈ F', y < w'.heap.size ∧ (y ∈ F ∨ y ∈ Fx ∨ y = w.heap.size) := by
  rw [hF] at hn
  have hna := List.nodup_append.1 hn
  have hk : Kp v.ownBlock.toList w w' := Kp.of_grown hg
  have hvF : ∀ y ∈ v.ownBlock.toList, y ∈ F := fun y hy => by rw [hF]; exact List.mem_append_left _ hy
  have hfF : ∀ y ∈ Fs.flatten, y ∈ F := fun y hy => by rw [hF]; exact List.mem_append_right _ hy
  refine ⟨v'.ownBlock.toList ++ (Fs ++ [Fx]).flatten, ⟨vs ++ [u0, u1], Fs ++ [Fx], ?_, ?_, rfl, ?_, ?_⟩, ?_⟩
  · rw [List.length_append, hxn']; exact ho'
  · simp [hl]
  · rw [List.flatten_append, List.flatten_cons, List.flatten_nil, List.append_nil]
    refine List.nodup_append.2 ⟨?_, List.nodup_append.2 ⟨hna.2.1, hxn, fun a ha b hb e => hxd b hb (by rw [← e]; exact hfF a ha)⟩, ?_⟩
    · cases v'.ownBlock with
      | none => exact List.nodup_nil
      | some b => simp
    · intro a ha b hb e
      subst e
      rcases hat with h | h
      · rw [h] at ha
        rcases List.mem_append.1 hb with hb | hb
        · exact hna.2.2 a ha a hb rfl
        · exact hxd a hb (hvF a ha)
      · rw [h, Option.mem_toList] at ha
        have ha' : w.heap.size = a := Option.some.inj ha
        rcases List.mem_append.1 hb with hb | hb
        · have := hFlt a (hfF a hb); omega
        · have := hxlt a hb; omega
  · intro i y hi
    rcases Nat.lt_or_ge i xs.length with hlt | hge
    · rw [List.getElem?_append_left hlt] at hi
      obtain ⟨t0, t1, Fi, g0, g1, g2, g3⟩ := he i y hi
      refine ⟨t0, t1, Fi, by rw [List.getElem?_append_left (by omega)]; exact g0, by rw [List.getElem?_append_left (by omega)]; exact g1, by rw [List.getElem?_append_left (by omega)]; exact g2, hR g3 hk (fun z hz hz' => hna.2.2 z hz' z (mem_flat g2 hz) rfl)⟩
    · rw [List.getElem?_append_right hge] at hi
      have hi0 : i - xs.length = 0 := by
        rcases Nat.eq_zero_or_pos (i - xs.length) with h | h
        · exact h
        · rw [List.getElem?_eq_none (by simp; omega)] at hi; cases hi
      rw [hi0] at hi
      simp at hi
      subst hi
      have hin : i = n := by omega
      subst hin
      exact ⟨u0, u1, Fx, by rw [List.getElem?_append_right (by omega)]; simp [hvl], by rw [List.getElem?_append_right (by omega), hvl]; simp [show i * 2 + 1 - i * 2 = 1 by omega], by rw [List.getElem?_append_right (by omega)]; simp [hl, hxn'], hR hx hk (fun z hz hz' => hxd z hz (hvF z hz'))⟩
  · intro y hy
    rw [List.flatten_append, List.flatten_cons, List.flatten_nil, List.append_nil] at hy
    have hs := hk.size
    rcases List.mem_append.1 hy with hy | hy
    · rw [Option.mem_toList] at hy
      refine ⟨(ho'.lt y hy).2, ?_⟩
      rcases hat with h | h
      · exact .inl (hvF y (by rw [Option.mem_toList, ← h]; exact hy))
      · rw [hy] at h; exact .inr (.inr (Option.some.inj h))
    · rcases List.mem_append.1 hy with hy | hy
      · exact ⟨by have := hFlt y (hfF y hy); omega, .inl (hfF y hy)⟩
      · exact ⟨by have := hxlt y hy; omega, .inr (.inl hy)⟩

theorem stepIn_append_at {F : Fence} {nn : Nat} {P : Program} (w : World) {ops : Array Oper} {o : Oper} {a : Act} {K : Act → World → Prop} {Q : Exit → Act → World → Prop} {E : Prop}
    (hg : o.guard = none) (s x : Operand) (t : TypeId) (hop : o.op = Op.call { callee := Callee.builtin Builtin.append, args := #[s, x], argTypes := #[t, t] })
    (base : Nat) (e : TypeId) (i : TypeInfo) (z : Value) (size bytes : Nat) (h1 : P.underlying t = some (.slice e)) (h2 : P.info? e = some i) (h3 : i.zero = some z) (h4 : i.size = size) (h5 : i.bytes = bytes) (h6 : z.cells.size = size) (h7 : 0 < size)
    (v : Value) (k : Nat) (xs : List Value) (hs : a.eval s = v) (hown : w.ownsRow base e size v k xs) (ad : Addr) (m c : Nat) (news : List Value) (hx : a.eval x = .slice (some ad) m c) (hn : news.length = m * size)
    (hc : ∀ j u, news[j]? = some u → w.cell? (ad.add j) = some u) (h1c : ∀ u ∈ news, u.oneCell' = true) (b1 : k + m ≤ maxLen) (b2 : (k + m) * bytes ≤ 140737488355328) (b3 : base ≤ w.heap.size)
    (hK : ∀ v' w', w'.ownsRow base e size v' (k + m) (xs ++ news) → w.grownBy w' v.ownBlock → (v' = .slice none 0 0 ↔ v = .slice none 0 0 ∧ m = 0) → (v'.ownBlock = v.ownBlock ∨ v'.ownBlock = some w.heap.size) → K (a.put o.dst v') w') :
    if Region.wanted o (yielded ops a.tmps) = true then Oper.wpIn F nn P o a w K Q else E := by
  have hw : Region.wanted o (yielded ops a.tmps) = true := by simp [Region.wanted, hg]
  rw [if_pos hw]
  obtain ⟨v', w', hrun, r1, r2, r3, r4⟩ := run_append_own_at (P := P) w base t o.type e i z size bytes h1 h2 h3 h4 h5 h6 h7 v k xs hown ad m c news hn hc h1c b1 b2 b3
  unfold Oper.wpIn
  refine ⟨?_, ?_⟩
  · simp [Oper.about, hop, resolve, Target.leads, Sem.run_pure]
  · rw [Oper.semAt_plain F _ _ (by rw [hop]; intro c hc'; cases hc')]
    simp [execOp, hop, resolve, invoke, builtin, hs, hx, hrun, Result.andThen]
    exact hK v' w' r1 r2 r3 r4

theorem row_tyA {B n size : Nat} {e : TypeId} {w : World} {v : Value} {xs : List Value} (h : w.ownsRow B e size v n xs) {g : Nat} {cs : Array Value} {t : TypeId} {z : Nat × Nat} (hg : w.heap[g]? = some (.cells cs t z)) (ht : t ≠ e) {b : Nat} (hb : v.ownBlock = some b) : b ≠ g := by
  rintro rfl
  rcases h.2 with ⟨rfl, _⟩ | ⟨g', cap, cur, rfl, _, hg', _⟩
  · cases hb
  · cases hb
    rw [hg'] at hg
    cases hg
    exact ht rfl

/-- What the consumer of the reads holds: the list so far, with its blocks. -/
def RdI (wb : World) (LB : Nat) (s : List El) (own : List Nat) (X : World) : Prop :=
  ∃ q k cap F, own = LB :: F ∧ Lv (fun b => b = LB) wb X ∧ X.heap[LB]? = some (.cells #[.slice q k cap] 40 (0, 0)) ∧ s.length = k ∧ AccsF wb.heap.size X (.slice q k cap) (s.map (·.2)) F ∧ ∀ y ∈ F, y < X.heap.size
theorem RdI.stable (wb : World) (LB : Nat) : StableB wb.heap.size (RdI wb LB) := by
  rintro s own X X' ⟨q, k, cap, F, rfl, h1, h2, h3, h4, h5⟩ hv
  exact ⟨q, k, cap, F, rfl, h1.trans hv (fun _ _ h => h) (fun b hb h => by omega), hv.heap h2 (fun h => h.1 (by simp)), h3, h4.lv hv (fun b hb h => h.1 (by simp [hb])), fun y hy => Nat.lt_of_lt_of_le (h5 y hy) hv.size⟩

/-- One element more. -/
theorem RdI.next {wb X x2 x4 : World} {LB k n d1 : Nat} {q q1 : Option Addr} {cap : Nat} {F F1 : List Nat} {pre : List El} (v : Value) {v' : Value} {arr : ByteArray} {sb : List Aff} {vs : List Value} {Fs : List (List Nat)}
    (hLV : Lv (fun b => b = LB) wb X) (hLB : X.heap[LB]? = some (.cells #[.slice q k cap] 40 (0, 0))) (hlt : LB < wb.heap.size) (hk : pre.length = k) (hF : AccsF wb.heap.size X (.slice q k cap) (pre.map (·.2)) F) (hFl : ∀ y ∈ F, y < X.heap.size)
    (hE : Ext X x2) (hf1 : AffsF wb.heap.size x2 (.slice q1 n d1) sb F1) (h1l : ∀ y ∈ F1, X.heap.size ≤ y ∧ y < x2.heap.size)
    (hG : x2.ownsRow wb.heap.size 44 2 (.slice q k cap) (pre.map (·.2)).length vs ∧ Fs.length = (pre.map (·.2)).length ∧ F = (Value.slice q k cap).ownBlock.toList ++ Fs.flatten ∧ F.Nodup ∧ ∀ i x, (pre.map (·.2))[i]? = some x → ∃ u0 u1 Fi, vs[i * 2]? = some u0 ∧ vs[i * 2 + 1]? = some u1 ∧ Fs[i]? = some Fi ∧ AccF wb.heap.size x2 u0 u1 x Fi)
    (ho' : x4.ownsRow wb.heap.size 44 2 v' (k + 1) (vs ++ [.string arr, .slice q1 n d1])) (hg : x2.grownBy x4 (Value.slice q k cap).ownBlock) (hat : v'.ownBlock = (Value.slice q k cap).ownBlock ∨ v'.ownBlock = some x2.heap.size) :
    x4.heap[LB]? = some (.cells #[.slice q k cap] 40 (0, 0)) ∧ ∃ own', Grew (LB :: F) own' X (x4.setCell ⟨LB, 0, none⟩ v') ∧ RdI wb LB (pre ++ [(v, (arr, sb))]) own' (x4.setCell ⟨LB, 0, none⟩ v') := by
  obtain ⟨ho, hl, hFe, hFn, he⟩ := hG
  have hml : (pre.map (·.2)).length = k := by rw [List.length_map, hk]
  have hvl : vs.length = k * 2 := by have h := ho.1; rw [hml] at h; exact h
  have hx : AccF wb.heap.size x2 (.string arr) (.slice q1 n d1) (arr, sb) F1 := ⟨rfl, hf1⟩
  have hF1n : F1.Nodup := by obtain ⟨_, _, _, _, _, n1, _⟩ := hf1; exact n1
  obtain ⟨F', hF', hF'l⟩ := PairsF.pushM (T := 44) (R := AccF) (fun h hk hd => AccF.kp h hk hd) hml hl hFe hFn he hvl ho' hg hat hx hF1n (fun y hy h => by have := (h1l y hy).1; have := hFl y h; omega) (fun y hy => by have := hFl y hy; have := hE.size_le; omega) (fun y hy => (h1l y hy).2)
  have hlen : (pre.map (·.2) ++ [(arr, sb)]).length = k + 1 := by simp [hk]
  obtain ⟨q4, d4, hv4⟩ := PairsF.slice hF'
  rw [hlen] at hv4
  subst hv4
  have hLB2 := hE.blk hLB
  have hne : ∀ b, (Value.slice q k cap).ownBlock = some b → b ≠ LB := fun b hb => by have := (World.ownsRow.lt ho b hb).1; omega
  have hLB4 := grownBy_blk hg hLB2 (fun e => hne LB e.symm rfl)
  refine ⟨hLB4, ?_⟩
  have hset := lv_set x4 LB 0 (.slice q4 (k + 1) d4)
  have h24 : Lv (fun b => (Value.slice q k cap).ownBlock = some b) x2 x4 := Lv.grown hg (fun r e _ => e)
  have hX4 : Lv (fun b => b ∈ F) X x4 := (hE.lv (D := fun _ => False)).trans h24 (fun _ _ h => h.elim) (fun b _ h => by rw [hFe, h]; simp)
  have hXe := hX4.trans hset (E := fun b => b ∈ LB :: F) (fun b _ h => by simp [h]) (fun b _ h => by simp [h])
  refine ⟨LB :: F', ⟨hXe, fun b hb => ?_⟩, q4, k + 1, d4, F', rfl, ?_, blk1_set hLB4, by simp [hk], ?_, fun y hy => ?_⟩
  · rcases List.mem_cons.1 hb with hb | hb
    · exact ⟨.inl (by simp [hb]), by rw [World.size_setCell, hb]; exact lt_of_block hLB4⟩
    · refine ⟨?_, by rw [World.size_setCell]; exact (hF'l b hb).1⟩
      rcases (hF'l b hb).2 with h | h | h
      · exact .inl (by simp [h])
      · exact .inr (h1l b h).1
      · exact .inr (by rw [h]; exact hE.size_le)
  · exact (hLV.trans hX4 (E := fun b => b = LB) (fun _ _ h => h) (fun b hb h => by have := AccsF.ge hF b h; omega)).trans hset (fun _ _ h => h) (fun _ _ h => h)
  · rw [List.map_append]; exact AccsF.lv hF' hset (fun b hb e => by have := AccsF.ge hF' b hb; omega)
  · rw [World.size_setCell]; exact (hF'l y hy).1

set_option linter.unusedVariables false in
set_option linter.unusedSimpArgs false in
set_option maxRecDepth 100000 in
set_option maxHeartbeats 4000000 in
theorem StmtReads_any (v : Value) (arr : ByteArray) (subs : List Aff) (e : Ex) (w : World) (hs : StR w v arr subs e) :
    Calls Try.prog 26 #[v] w fun r w' => (∃ v' F, r = .returned v' ∧ AccsF w.heap.size w' v' (rdL arr subs e) F ∧ ∀ y ∈ F, y < w'.heap.size) ∧ Ext w w' := by
  obtain ⟨i0, hi, hz0, hz1, hz2⟩ := info_parts infoAcc
  have HST := Lib.hid hs
  obtain ⟨q1, d1, q2, d2, q3, d3, q4, d4, rfl, ha, hs1, he⟩ := hs.parts
  clear hs hs1 he ha
  refine (callsIn_wide (n := 6)).1 ?_
  refine callsIn_of_wp_marks Try.func26 rfl trivial ?_ rfl
  simp only [Try.ntmps26, List.size_toArray, List.length_cons, List.length_nil, Nat.reduceAdd, Nat.reduceSub, Array.replicate_succ, Array.replicate_zero, List.push_toArray, List.append_toArray, List.nil_append, List.cons_append]
  have hdd : ∀ j : Nat, (Fence.wide.depth.isSome = true → 1 ≤ j) := fun j h => by cases h
  obtain ⟨g0, hg0⟩ : ∃ g0, w.heap.size = g0 := ⟨_, rfl⟩
  obtain ⟨W0, hW0⟩ : ∃ W0, w.alloc (.cells #[.string arr, .slice q1 subs.length d1, .int .i64 e.kind, .int .i64 e.num, .slice q2 e.ix.1.length d2, .int .i64 e.ix.2, .string e.arr, .slice q3 e.subs.length d3, .slice q4 e.kids.length d4] 50) = W0 := ⟨_, rfl⟩
  have E0 : Hid (Ext w W0) := Lib.hid (by rw [← hW0]; exact (Ext.refl w).alloc _)
  have B0 : W0.heap[g0]? = some (.cells #[.string arr, .slice q1 subs.length d1, .int .i64 e.kind, .int .i64 e.num, .slice q2 e.ix.1.length d2, .int .i64 e.ix.2, .string e.arr, .slice q3 e.subs.length d3, .slice q4 e.kids.length d4] 50 (0, 0)) := by rw [← hW0]; exact blk_at hg0.symm
  have HS0 : Hid (W0.heap.size = g0 + 1) := Lib.hid (by rw [← hW0]; simp [hg0])
  obtain ⟨y0, y1, y2, y3, y4, y5, y6, y7, y8⟩ := blk9 B0
  clear B0
  gi_wp2_with (fail)
  try rw [hW0]
  try rw [hg0]
  have HG0 := Lib.hid hg0
  clear hW0 hg0
  refine ⟨trivial, ?_⟩
  obtain ⟨vb, hvb⟩ : ∃ b, validB arr subs e 4 = b := ⟨_, rfl⟩
  have HVB := Lib.hid hvb
  refine (callsIn_wide.2 (statementOf_any _ arr subs e 4 _ (HST.out.ext E0.out))).mono ?_
  rw [hvb]
  rintro r w1 ⟨⟨a', p', n', c', nv, rfl, hf, hgood⟩, hE1⟩
  have HE1 := Lib.hid (E0.out.trans hE1)
  have HZ1 := Lib.hid hE1.size_le
  clear hvb hE1 y0 y1 y2 y3 y4 y5 y6 y7 y8
  cases vb with
  | false =>
    have HRD : Hid (rdL arr subs e = []) := Lib.hid (by unfold rdL; rw [if_neg (by rw [HVB.out]; decide)])
    clear hgood
    rcases hf with rfl | ⟨t, x, rfl⟩
    · gi_wp2
      refine leaves_marks2 [] _ (by simp) (by simp) (fun W' hW' => ?_)
      refine ⟨.slice none 0 0, by simp [results, Try.results26, go_sem], ⟨.slice none 0 0, [], rfl, by rw [HRD.out]; exact AccsF.nil _ _, fun y hy => by cases hy⟩, hW'.ext0 (HE1.out.alloc _) (fun b hb h => by simp at h)⟩
    · gi_wp2
      refine leaves_marks2 [] _ (by simp) (by simp) (fun W' hW' => ?_)
      refine ⟨.slice none 0 0, by simp [results, Try.results26, go_sem], ⟨.slice none 0 0, [], rfl, by rw [HRD.out]; exact AccsF.nil _ _, fun y hy => by cases hy⟩, hW'.ext0 (HE1.out.alloc _) (fun b hb h => by simp at h)⟩
  | true =>
  have HRD : Hid (rdL arr subs e = readsE 5 e) := Lib.hid (by unfold rdL; rw [if_pos HVB.out])
  obtain ⟨-, -, hnd⟩ := hgood rfl
  obtain ⟨-, hsh, hct⟩ := vshape HVB.out
  obtain ⟨xs, hxl, hxm, hxe⟩ := hnd.list hsh
  have hok := reads_ok2 5 e hsh
  have hx12 : xs.length ≤ 12 := by have h := reads_len 5 e; rw [← hxm, List.length_map] at h; omega
  have HND := Lib.hid hxl; have HXM := Lib.hid hxm; have HX12 := Lib.hid hx12
  have HEL : Hid (∀ x ∈ xs, ElR W0.heap.size w1 x ∧ x.2.2.length ≤ 1000) := Lib.hid (fun x hx => ⟨hxe x hx, by
    have h := hok x.2 (by rw [← hxm]; exact List.mem_map.2 ⟨x, hx, rfl⟩)
    simp only [accB, Bool.and_eq_true, decide_eq_true_eq] at h
    have := h.2.2.2; omega⟩)
  obtain ⟨tn, xn, rfl⟩ := hxl.iface
  clear hnd hsh hct hxm hxe hok hx12 hgood hf hxl
  obtain ⟨SB, hSB⟩ : ∃ SB, w1.heap.size = SB := ⟨_, rfl⟩
  obtain ⟨W2, hW2⟩ : ∃ W2, (w1.alloc (.cells #[.string a', .slice p' n' c', .iface tn xn] 88)).alloc (.cells #[.slice none 0 0] 40) = W2 := ⟨_, rfl⟩
  have hs2 : W2.heap.size = SB + 2 := by rw [← hW2]; simp [hSB]
  have E2 : Ext w1 W2 := by rw [← hW2]; exact ((Ext.refl w1).alloc _).alloc _
  have A2 : W2.heap[SB]? = some (.cells #[.string a', .slice p' n' c', .iface tn xn] 88 (0, 0)) := by rw [← hW2]; exact blk_old (blk_at hSB.symm)
  have P2 : W2.heap[SB + 1]? = some (.cells #[.slice none 0 0] 40 (0, 0)) := by rw [← hW2]; exact blk_at (by simp [hSB])
  have HE2 := Lib.hid (HE1.out.trans E2); have HA2 := Lib.hid A2; have HP2 := Lib.hid P2; have HS2 := Lib.hid hs2; have HX := Lib.hid E2
  have HSB := Lib.hid hSB
  clear E2 A2 P2 hs2
  obtain ⟨x0, x1, x2⟩ := blk3 HA2.out
  gi_wp2_with (fail)
  try rw [hSB]
  try rw [hW2]
  clear hW2 hSB
  refine ⟨trivial, ?_⟩
  refine (callsIn_wide.2 (reads_call a' p' n' c' _ W2 ⟨_, _, rfl⟩)).mono ?_
  rintro e wb ⟨rfl, hwb⟩
  rw [HS2.out]
  have EB : Ext W2 wb := by rw [hwb]; exact (Ext.refl W2).alloc _
  have BP : wb.heap[SB + 2]? = some (.cells #[.string a', .slice p' n' c', .iface tn xn] 88 (0, 0)) := by rw [hwb]; exact blk_at HS2.out.symm
  have hbs : wb.heap.size = SB + 3 := by rw [hwb, World.size_alloc, HS2.out]
  have HPb := Lib.hid (EB.blk HP2.out); have HBP := Lib.hid BP; have HEb := Lib.hid (HE2.out.trans EB); have HX2 := Lib.hid (HX.out.trans EB)
  clear hwb EB BP x0 x1 x2
  obtain ⟨LB, hLB⟩ : ∃ LB, SB + 1 = LB := ⟨_, rfl⟩
  rw [hLB] at HPb
  try rw [hLB]
  have HLT : Hid (LB < wb.heap.size) := Lib.hid (by omega)
  have HBS := Lib.hid hbs
  gi_wp2_with (fail)
  refine wpIn_rangeFunc_baseA (w := wb) rfl (hdd _) (gf := 79) (lb := #[.pointer (some ⟨SB + 2, 0, none⟩)]) rfl trivial (enters_of Try.func79 (by kernel_rfl) rfl)
    wb.heap.size (Nat.le_refl _) (reads_seqB wb.heap.size _ _ _ _ _ xs _ (fun _ => False) wb HND.out (fun b h => h.elim) HBP.out)
    (fun b h => h.elim) (fun b h => h) (fun x W1 W2 h _ => h) (fun W1 W2 _ _ => trivial) (fun _ => rfl)
    (RdI wb LB) (fun _ _ _ _ => False) (RdI.stable _ _) (fun cd s own X X' h _ => h) [LB]
    (fun b hb => ⟨by simp at hb; omega, fun h => h⟩) ⟨none, 0, 0, [], rfl, Lv.refl _ _, HPb.out, rfl, AccsF.nil _ _, fun y hy => by cases hy⟩
    (fun (x : El) (a' : Act) (X : World) => ∃ EB p n c, x.1 = .agg #[.string x.2.1, .slice p n c] ∧ LinsOwn W0.heap.size w1 (.slice p n c) x.2.2 ∧ x.2.2.length ≤ 1000 ∧ X.heap[EB]? = some (.cells #[.string x.2.1, .slice p n c] 84 (0, 0)) ∧ ∃ u0 u1 u2 u3 u4 u7 u8 u9 u10 u11 u12 u13 u14 u15 u16 u17 u18 u19 u20 u21 u22 : Value, a' = { tmps := #[u0, u1, u2, u3, u4, .pointer (some ⟨LB, 0, none⟩), .pointer (some ⟨EB, 0, none⟩), u7, u8, u9, u10, u11, u12, u13, u14, u15, u16, u17, u18, u19, u20, u21, u22], defers := [] })
    ?ast ?assign ?body ?done ?stop
  case ast =>
    rintro x a' W W' l o ⟨EB, p, n, c, h1, h2, h3, h4, h5⟩ ho hv
    exact ⟨EB, p, n, c, h1, h2, h3, hv.heap h4 (fun e => by subst e; rw [h4] at ho; cases ho), h5⟩
  case assign =>
    intro l2 y X K hy hK
    obtain ⟨⟨p, n, c, e1, hl⟩, hsz⟩ := HEL.out y hy
    obtain ⟨v, arr, sb⟩ := y
    dsimp only at e1 hl hsz
    subst e1
    gi_wp2
    exact hK _ _ (Lv.alloc _ X _) ⟨X.heap.size, p, n, c, rfl, hl, hsz, blk_at rfl, _, _, _, _, _, _, _, _, _, _, _, _, _, _, _, _, _, _, _, _, _, rfl⟩
  case body =>
    rintro l2 pre0 y ow a' X ⟨q, k, cap, F, rfl, hLV, hLX, hk, hF, hFl⟩ hpx hrx hob ⟨EB, p, n, c, e1, hl, hsz, hg, u0, u1, u2, u3, u4, u7, u8, u9, u10, u11, u12, u13, u14, u15, u16, u17, u18, u19, u20, u21, u22, rfl⟩
    obtain ⟨v, arr, sb⟩ := y
    dsimp only at e1 hl hsz hg
    subst e1
    have hnl : sb.length = n := by obtain ⟨p0, c0, e0⟩ := hl.form; simp only [Value.slice.injEq] at e0; exact e0.2.1.symm
    have HEX : Hid (Ext X X.drew) := Lib.hid (Ext.refl X).drew
    have EXw := hLV.ext0 HX2.out (fun b hb h => by have := HSB.out; omega)
    have HLw : Hid (LinsOwn W0.heap.size X.drew (.slice p n c) sb) := Lib.hid ((hl.ext EXw).ext HEX.out)
    have HN1 := Lib.hid hnl; have HN2 : Hid (n ≤ 1000) := Lib.hid (by omega)
    have HEBw := Lib.hid (HEX.out.blk hg); have HLBw := Lib.hid (HEX.out.blk hLX)
    have HWX := Lib.hid hLV; have HLBX := Lib.hid hLX; have HK := Lib.hid hk; have HFX := Lib.hid hF; have HFL := Lib.hid hFl
    have HK12 : Hid (k ≤ 12) := Lib.hid (by have h1 := hpx.length_le; have h2 := HX12.out; rw [List.length_append] at h1; omega)
    have HNE : Hid (¬ EB = LB) := Lib.hid (fun e => by subst e; rw [hLX] at hg; cases hg)
    have HEXd : Hid (wb.heap.size ≤ X.heap.size ∧ X.drew.heap.size = X.heap.size) := Lib.hid ⟨hLV.size, rfl⟩
    have hS_of : ∀ W : World, W.heap[EB]? = some (.cells #[.string arr, .slice p n c] 84 (0, 0)) → W.cell? ⟨EB, 0, none⟩ = some (.string arr) ∧ W.cell? ⟨EB, 1, none⟩ = some (.slice p n c) := fun W h => ⟨(blk2 h).1, (blk2 h).2.1⟩
    have hHeld0 := hS_of _ HEBw.out
    clear hLV hLX hk hF hFl hpx hrx hob hl hsz hg hnl EXw
    gi_wp2_with (fail)
    refine wpIn_round_IS (n := 1) (fun W => W.cell? ⟨EB, 0, none⟩ = some (.string arr) ∧ W.cell? ⟨EB, 1, none⟩ = some (.slice p n c)) (by kernel_rfl) (by kernel_rfl) hHeld0 (fun hHeld => ?_)
    refine wpAnyIS_takeD (some 18) (i := 1) (v := ?vt1) rfl rfl rfl (by kernel_rfl) (by kernel_rfl) (by kernel_rfl) (fun _ _ _ h => h) (Or.inl ⟨by rfl, ?hyt1⟩) (fun _ => rfl) (by assumption) ?rt1
    case hyt1 => intro w hSw; (try dsimp only at hSw); go_simp; first | done | with_reducible rfl
    case' rt1 => try simp only [Act.put, List.setIfInBounds_toArray, List.set_cons_zero, List.set_cons_succ]
    refine wpAnyIS_two (i := 0) (j := 2) (by kernel_rfl) rfl rfl (fun K9 hK => ?_) (fun K9 hK => ?_)
    · skip
      obtain ⟨l0, -⟩ := blk1 HLBw.out
      go_simp
      refine hK _ _ hHeld ?_
      clear hK K9 l0
      try simp only [Act.put, List.setIfInBounds_toArray, List.set_cons_zero, List.set_cons_succ]
      refine wpAnyIS_one (i := 2) (by kernel_rfl) rfl (fun K9 hK => ?_)
      go_simp
      refine ⟨trivial, ?_⟩
      refine (callsIn_wide.2 (access_F W0.heap.size arr p n c sb _ HN1.out HLw.out HN2.out)).mono ?_
      rintro e x1 ⟨⟨q1, d1, F1, rfl, hf1, h1l⟩, hE1⟩
      have hs1 := hE1.size_le
      have hsX : X.drew.heap.size = X.heap.size := rfl
      refine hK _ _ (hS_of _ (hE1.blk HEBw.out)) ?_
      clear hK K9
      have HEX1 := Lib.hid (HEX.out.trans hE1); have HEB1 := Lib.hid (hE1.blk HEBw.out); have HLB1 := Lib.hid (hE1.blk HLBw.out)
      have HF1 := Lib.hid hf1; have H1L := Lib.hid h1l
      clear hf1 h1l hE1
      replace hHeld := hS_of _ HEB1.out
      try simp only [Act.put, List.setIfInBounds_toArray, List.set_cons_zero, List.set_cons_succ]
      refine wpAnyIS_one (i := 3) (by kernel_rfl) rfl (fun K9 hK => ?_)
      go_simp
      have EA : Hid (Ext x1 (x1.alloc (.cells #[.string arr, .slice q1 n d1] 44))) := Lib.hid ((Ext.refl _).alloc _)
      refine hK _ _ (hS_of _ (EA.out.blk HEB1.out)) ?_
      clear hK K9
      obtain ⟨AB, hAB⟩ : ∃ AB, x1.heap.size = AB := ⟨_, rfl⟩
      have HAB : Hid ((x1.alloc (.cells #[.string arr, .slice q1 n d1] 44)).heap[AB]? = some (.cells #[.string arr, .slice q1 n d1] 44 (0, 0))) := Lib.hid (blk_at hAB.symm)
      try rw [hAB]
      obtain ⟨x2, hx2⟩ : ∃ x, x1.alloc (.cells #[.string arr, .slice q1 n d1] 44) = x := ⟨_, rfl⟩
      have hs2 : x2.heap.size = AB + 1 := by rw [← hx2, World.size_alloc, hAB]
      rw [hx2] at EA HAB ⊢
      have HEX2 := Lib.hid (HEX1.out.trans EA.out); have HLBw := Lib.hid (EA.out.blk HLB1.out); have HEB2 := Lib.hid (EA.out.blk HEB1.out)
      have HS2 := Lib.hid hs2; have HS1 := Lib.hid hAB
      clear hx2 hAB hs2
      replace hHeld := hS_of _ HEB2.out
      try simp only [Act.put, List.setIfInBounds_toArray, List.set_cons_zero, List.set_cons_succ]
      refine wpAnyIS_one (i := 4) (by kernel_rfl) rfl (fun K9 hK => ?_)
      have HF2 := AccsF.kp HFX.out (Kp.of_ext (F := []) HEX2.out) (fun _ _ h => by cases h)
      obtain ⟨vs, Fs, hG⟩ := HF2
      have HG := Lib.hid hG
      have hrow := hG.1
      rw [List.length_map, HK.out] at hrow
      obtain ⟨b20, b21, -, -⟩ := blk2 HAB.out
      have hwb := HWX.out.size
      have hxs := HEX2.out.size_le
      refine stepIn_append_at _ rfl (.tmp 17) (.tmp 20) 40 rfl wb.heap.size 44 i0 (.agg #[.string ⟨#[]⟩, .slice none 0 0]) 2 40 Try.underlying40 hi hz0 hz1 hz2 rfl (by decide) (.slice q k cap) k vs rfl hrow ⟨AB, 0, none⟩ 1 1 [.string arr, .slice q1 n d1] rfl rfl ?c1 ?c2 ?c3 ?c4 ?c5 ?_
      case c1 =>
        intro q u hq
        match q, hq with
        | 0, hq => simp at hq; subst hq; simpa [Addr.add] using b20
        | 1, hq => simp at hq; subst hq; simpa [Addr.add] using b21
      case c2 => intro u hu; simp at hu; rcases hu with rfl | rfl <;> rfl
      case c3 => have := HK12.out; unfold maxLen; omega
      case c4 => have := HK12.out; omega
      case c5 => omega
      intro v' x4 hown' hgrow _ hat
      obtain ⟨q5, c5, rfl⟩ := row_form hown'
      have hEB4 : x4.heap[EB]? = some (.cells #[.string arr, .slice p n c] 84 (0, 0)) := grownBy_blk hgrow HEB2.out (fun e => row_tyA hrow HEB2.out (by decide) e.symm rfl)
      obtain ⟨hLB4, own', hgr', hI'⟩ := RdI.next (wb := wb) (X := X) (x2 := x2) (n := n) (.agg #[.string arr, .slice p n c]) HWX.out HLBX.out HLT.out HK.out HFX.out HFL.out HEX2.out ((AffsF.kp HF1.out (Kp.of_ext (F := []) EA.out) (fun _ _ h => by cases h)).weak (by have := HEXd.out; omega)) (fun y hy => ⟨by have h1 := AffsF.ge HF1.out y hy; have := HEXd.out; omega, by have h1 := H1L.out y hy; have h2 := HS2.out; have h3 := HS1.out; omega⟩) HG.out hown' hgrow hat
      refine hK _ _ (hS_of _ hEB4) ?_
      clear hK K9
      replace hHeld := hS_of _ hEB4
      have HGR := Lib.hid hgr'; have HI := Lib.hid hI'; have HEB4 := Lib.hid hEB4
      obtain ⟨m0, mf⟩ := blk1 hLB4
      clear hG hrow hown' hgrow hat hgr' hI' hEB4 hLB4 b20 b21 HG
      try simp only [Act.put, List.setIfInBounds_toArray, List.set_cons_zero, List.set_cons_succ]
      refine wpAnyIS_one (i := 5) (by kernel_rfl) rfl (fun K9 hK => ?_)
      go_simp
      refine hK _ _ (hS_of _ ((lv_set x4 LB 0 (.slice q5 (k + 1) c5)).heap HEB4.out HNE.out)) ?_
      clear hK K9
      try simp only [Act.put, List.setIfInBounds_toArray, List.set_cons_zero, List.set_cons_succ]
      refine wpAnyIS_done (by kernel_rfl) ?_ _
      exact ⟨own', HGR.out, HI.out⟩
    · skip
      go_simp
      refine ⟨trivial, ?_⟩
      refine (callsIn_wide.2 (access_F W0.heap.size arr p n c sb _ HN1.out HLw.out HN2.out)).mono ?_
      rintro e x1 ⟨⟨q1, d1, F1, rfl, hf1, h1l⟩, hE1⟩
      have hs1 := hE1.size_le
      have hsX : X.drew.heap.size = X.heap.size := rfl
      refine hK _ _ (hS_of _ (hE1.blk HEBw.out)) ?_
      clear hK K9
      have HEX1 := Lib.hid (HEX.out.trans hE1); have HEB1 := Lib.hid (hE1.blk HEBw.out); have HLB1 := Lib.hid (hE1.blk HLBw.out)
      have HF1 := Lib.hid hf1; have H1L := Lib.hid h1l
      clear hf1 h1l hE1
      replace hHeld := hS_of _ HEB1.out
      try simp only [Act.put, List.setIfInBounds_toArray, List.set_cons_zero, List.set_cons_succ]
      refine wpAnyIS_two (i := 0) (j := 3) (by kernel_rfl) rfl rfl (fun K9 hK => ?_) (fun K9 hK => ?_)
      · skip
        obtain ⟨l0, -⟩ := blk1 HLB1.out
        go_simp
        refine hK _ _ hHeld ?_
        clear hK K9 l0
        try simp only [Act.put, List.setIfInBounds_toArray, List.set_cons_zero, List.set_cons_succ]
        refine wpAnyIS_one (i := 3) (by kernel_rfl) rfl (fun K9 hK => ?_)
        go_simp
        have EA : Hid (Ext x1 (x1.alloc (.cells #[.string arr, .slice q1 n d1] 44))) := Lib.hid ((Ext.refl _).alloc _)
        refine hK _ _ (hS_of _ (EA.out.blk HEB1.out)) ?_
        clear hK K9
        obtain ⟨AB, hAB⟩ : ∃ AB, x1.heap.size = AB := ⟨_, rfl⟩
        have HAB : Hid ((x1.alloc (.cells #[.string arr, .slice q1 n d1] 44)).heap[AB]? = some (.cells #[.string arr, .slice q1 n d1] 44 (0, 0))) := Lib.hid (blk_at hAB.symm)
        try rw [hAB]
        obtain ⟨x2, hx2⟩ : ∃ x, x1.alloc (.cells #[.string arr, .slice q1 n d1] 44) = x := ⟨_, rfl⟩
        have hs2 : x2.heap.size = AB + 1 := by rw [← hx2, World.size_alloc, hAB]
        rw [hx2] at EA HAB ⊢
        have HEX2 := Lib.hid (HEX1.out.trans EA.out); have HLBw := Lib.hid (EA.out.blk HLB1.out); have HEB2 := Lib.hid (EA.out.blk HEB1.out)
        have HS2 := Lib.hid hs2; have HS1 := Lib.hid hAB
        clear hx2 hAB hs2
        replace hHeld := hS_of _ HEB2.out
        try simp only [Act.put, List.setIfInBounds_toArray, List.set_cons_zero, List.set_cons_succ]
        refine wpAnyIS_one (i := 4) (by kernel_rfl) rfl (fun K9 hK => ?_)
        have HF2 := AccsF.kp HFX.out (Kp.of_ext (F := []) HEX2.out) (fun _ _ h => by cases h)
        obtain ⟨vs, Fs, hG⟩ := HF2
        have HG := Lib.hid hG
        have hrow := hG.1
        rw [List.length_map, HK.out] at hrow
        obtain ⟨b20, b21, -, -⟩ := blk2 HAB.out
        have hwb := HWX.out.size
        have hxs := HEX2.out.size_le
        refine stepIn_append_at _ rfl (.tmp 17) (.tmp 20) 40 rfl wb.heap.size 44 i0 (.agg #[.string ⟨#[]⟩, .slice none 0 0]) 2 40 Try.underlying40 hi hz0 hz1 hz2 rfl (by decide) (.slice q k cap) k vs rfl hrow ⟨AB, 0, none⟩ 1 1 [.string arr, .slice q1 n d1] rfl rfl ?c1 ?c2 ?c3 ?c4 ?c5 ?_
        case c1 =>
          intro q u hq
          match q, hq with
          | 0, hq => simp at hq; subst hq; simpa [Addr.add] using b20
          | 1, hq => simp at hq; subst hq; simpa [Addr.add] using b21
        case c2 => intro u hu; simp at hu; rcases hu with rfl | rfl <;> rfl
        case c3 => have := HK12.out; unfold maxLen; omega
        case c4 => have := HK12.out; omega
        case c5 => omega
        intro v' x4 hown' hgrow _ hat
        obtain ⟨q5, c5, rfl⟩ := row_form hown'
        have hEB4 : x4.heap[EB]? = some (.cells #[.string arr, .slice p n c] 84 (0, 0)) := grownBy_blk hgrow HEB2.out (fun e => row_tyA hrow HEB2.out (by decide) e.symm rfl)
        obtain ⟨hLB4, own', hgr', hI'⟩ := RdI.next (wb := wb) (X := X) (x2 := x2) (n := n) (.agg #[.string arr, .slice p n c]) HWX.out HLBX.out HLT.out HK.out HFX.out HFL.out HEX2.out ((AffsF.kp HF1.out (Kp.of_ext (F := []) EA.out) (fun _ _ h => by cases h)).weak (by have := HEXd.out; omega)) (fun y hy => ⟨by have h1 := AffsF.ge HF1.out y hy; have := HEXd.out; omega, by have h1 := H1L.out y hy; have h2 := HS2.out; have h3 := HS1.out; omega⟩) HG.out hown' hgrow hat
        refine hK _ _ (hS_of _ hEB4) ?_
        clear hK K9
        replace hHeld := hS_of _ hEB4
        have HGR := Lib.hid hgr'; have HI := Lib.hid hI'; have HEB4 := Lib.hid hEB4
        obtain ⟨m0, mf⟩ := blk1 hLB4
        clear hG hrow hown' hgrow hat hgr' hI' hEB4 hLB4 b20 b21 HG
        try simp only [Act.put, List.setIfInBounds_toArray, List.set_cons_zero, List.set_cons_succ]
        refine wpAnyIS_one (i := 5) (by kernel_rfl) rfl (fun K9 hK => ?_)
        go_simp
        refine hK _ _ (hS_of _ ((lv_set x4 LB 0 (.slice q5 (k + 1) c5)).heap HEB4.out HNE.out)) ?_
        clear hK K9
        try simp only [Act.put, List.setIfInBounds_toArray, List.set_cons_zero, List.set_cons_succ]
        refine wpAnyIS_done (by kernel_rfl) ?_ _
        exact ⟨own', HGR.out, HI.out⟩
      · skip
        go_simp
        have EA : Hid (Ext x1 (x1.alloc (.cells #[.string arr, .slice q1 n d1] 44))) := Lib.hid ((Ext.refl _).alloc _)
        refine hK _ _ (hS_of _ (EA.out.blk HEB1.out)) ?_
        clear hK K9
        obtain ⟨AB, hAB⟩ : ∃ AB, x1.heap.size = AB := ⟨_, rfl⟩
        have HAB : Hid ((x1.alloc (.cells #[.string arr, .slice q1 n d1] 44)).heap[AB]? = some (.cells #[.string arr, .slice q1 n d1] 44 (0, 0))) := Lib.hid (blk_at hAB.symm)
        try rw [hAB]
        obtain ⟨x2, hx2⟩ : ∃ x, x1.alloc (.cells #[.string arr, .slice q1 n d1] 44) = x := ⟨_, rfl⟩
        have hs2 : x2.heap.size = AB + 1 := by rw [← hx2, World.size_alloc, hAB]
        rw [hx2] at EA HAB ⊢
        have HEX2 := Lib.hid (HEX1.out.trans EA.out); have HLBw := Lib.hid (EA.out.blk HLB1.out); have HEB2 := Lib.hid (EA.out.blk HEB1.out)
        have HS2 := Lib.hid hs2; have HS1 := Lib.hid hAB
        clear hx2 hAB hs2
        replace hHeld := hS_of _ HEB2.out
        try simp only [Act.put, List.setIfInBounds_toArray, List.set_cons_zero, List.set_cons_succ]
        refine wpAnyIS_one (i := 0) (by kernel_rfl) rfl (fun K9 hK => ?_)
        obtain ⟨l0, -⟩ := blk1 HLBw.out
        go_simp
        refine hK _ _ hHeld ?_
        clear hK K9 l0
        try simp only [Act.put, List.setIfInBounds_toArray, List.set_cons_zero, List.set_cons_succ]
        refine wpAnyIS_one (i := 4) (by kernel_rfl) rfl (fun K9 hK => ?_)
        have HF2 := AccsF.kp HFX.out (Kp.of_ext (F := []) HEX2.out) (fun _ _ h => by cases h)
        obtain ⟨vs, Fs, hG⟩ := HF2
        have HG := Lib.hid hG
        have hrow := hG.1
        rw [List.length_map, HK.out] at hrow
        obtain ⟨b20, b21, -, -⟩ := blk2 HAB.out
        have hwb := HWX.out.size
        have hxs := HEX2.out.size_le
        refine stepIn_append_at _ rfl (.tmp 17) (.tmp 20) 40 rfl wb.heap.size 44 i0 (.agg #[.string ⟨#[]⟩, .slice none 0 0]) 2 40 Try.underlying40 hi hz0 hz1 hz2 rfl (by decide) (.slice q k cap) k vs rfl hrow ⟨AB, 0, none⟩ 1 1 [.string arr, .slice q1 n d1] rfl rfl ?c1 ?c2 ?c3 ?c4 ?c5 ?_
        case c1 =>
          intro q u hq
          match q, hq with
          | 0, hq => simp at hq; subst hq; simpa [Addr.add] using b20
          | 1, hq => simp at hq; subst hq; simpa [Addr.add] using b21
        case c2 => intro u hu; simp at hu; rcases hu with rfl | rfl <;> rfl
        case c3 => have := HK12.out; unfold maxLen; omega
        case c4 => have := HK12.out; omega
        case c5 => omega
        intro v' x4 hown' hgrow _ hat
        obtain ⟨q5, c5, rfl⟩ := row_form hown'
        have hEB4 : x4.heap[EB]? = some (.cells #[.string arr, .slice p n c] 84 (0, 0)) := grownBy_blk hgrow HEB2.out (fun e => row_tyA hrow HEB2.out (by decide) e.symm rfl)
        obtain ⟨hLB4, own', hgr', hI'⟩ := RdI.next (wb := wb) (X := X) (x2 := x2) (n := n) (.agg #[.string arr, .slice p n c]) HWX.out HLBX.out HLT.out HK.out HFX.out HFL.out HEX2.out ((AffsF.kp HF1.out (Kp.of_ext (F := []) EA.out) (fun _ _ h => by cases h)).weak (by have := HEXd.out; omega)) (fun y hy => ⟨by have h1 := AffsF.ge HF1.out y hy; have := HEXd.out; omega, by have h1 := H1L.out y hy; have h2 := HS2.out; have h3 := HS1.out; omega⟩) HG.out hown' hgrow hat
        refine hK _ _ (hS_of _ hEB4) ?_
        clear hK K9
        replace hHeld := hS_of _ hEB4
        have HGR := Lib.hid hgr'; have HI := Lib.hid hI'; have HEB4 := Lib.hid hEB4
        obtain ⟨m0, mf⟩ := blk1 hLB4
        clear hG hrow hown' hgrow hat hgr' hI' hEB4 hLB4 b20 b21 HG
        try simp only [Act.put, List.setIfInBounds_toArray, List.set_cons_zero, List.set_cons_succ]
        refine wpAnyIS_one (i := 5) (by kernel_rfl) rfl (fun K9 hK => ?_)
        go_simp
        refine hK _ _ (hS_of _ ((lv_set x4 LB 0 (.slice q5 (k + 1) c5)).heap HEB4.out HNE.out)) ?_
        clear hK K9
        try simp only [Act.put, List.setIfInBounds_toArray, List.set_cons_zero, List.set_cons_succ]
        refine wpAnyIS_done (by kernel_rfl) ?_ _
        exact ⟨own', HGR.out, HI.out⟩
  case done =>
    rintro E ow X hE6 hEn ⟨q, k, cap, F, rfl, hLV, hLX, hk, hF, hFl⟩ hob hv6 hz hdf
    have EX := Lib.hid (hLV.ext0 HEb.out (fun b hb h => by have := HG0.out; have := HS0.out; have := HZ1.out; have := HSB.out; omega))
    rw [HXM.out] at hF
    have HFX := Lib.hid hF; have HFL := Lib.hid hFl
    have XE := Lib.hid hdf
    have HEE : Hid (g0 + 1 ≤ E ∧ ∀ b ∈ F, b ≠ E) := Lib.hid ⟨by have := HS0.out; have := HZ1.out; have := HSB.out; omega, fun b hb e => hEn (by subst e; simp [hb])⟩
    obtain ⟨l0, -⟩ := blk1 hLX
    clear hLV hLX hF hk hFl hob hv6 hz hdf hE6 hEn
    gi_wp2_with (fail)
    refine leaves_marks2 [E] _ (fun E' h => by simp at h; subst h; exact XE.out) (by simp) (fun W' hW' => ?_)
    refine ⟨.slice q k cap, by simp [results, Try.results26, go_sem], ⟨_, F, rfl, ?_, fun y hy => Nat.lt_of_lt_of_le (HFL.out y hy) hW'.size⟩, hW'.ext0 EX.out (fun b hb h => by have := HEE.out.1; have := HG0.out; simp at h; omega)⟩
    rw [HRD.out]
    exact (AccsF.lv HFX.out hW' (fun b hb h => by simp at h; exact HEE.out.2 b hb h)).weak (by have := HEb.out.size_le; omega)
  case stop =>
    rintro E cd qq ow X hE6 hEn hq h hob hv6 hz hdf
    exact h.elim
end Go.Proofs.Ytggpjapmhakklaa
