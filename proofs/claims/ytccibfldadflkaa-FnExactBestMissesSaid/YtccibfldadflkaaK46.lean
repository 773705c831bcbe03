/- The texts Qe2 Qe3, joined. No statement is proved here. -/
import Derived.Test.YtccibfldadflkaaK40
import Derived.Test.YtccibfldadflkaaK43
/- The queue at use: Swap, Pop, Push. No statement is proved here. -/
namespace Go.Proofs.Ytccibfldadflkaa
open Go.RowKit Go.Maps

theorem lv_set2 (w : World) (o i j : Nat) (u v : Value) : Lv (fun k => k = o) w ((w.setCell ⟨o, i, none⟩ u).setCell ⟨o, j, none⟩ v) := (lv_set w o i u).trans (lv_set _ o j v) (fun _ _ h => h) (fun _ _ h => h)

set_option maxRecDepth 100000 in
set_option maxHeartbeats 2000000 in
theorem queueSwap_any (B g o n c a b : Nat) (xs : List Us) (x y : Us) (w : World) (hq : QuB w g (some ⟨o, 0, none⟩) n c) (h : ItQ B o n c w xs) (ha : xs[a]? = some x) (hb : xs[b]? = some y) :
    Calls Try.prog 180 #[.pointer (some ⟨g, 0, none⟩), .int .i64 (a : Int), .int .i64 (b : Int)] w fun e w' => e = .returned (.tuple #[]) ∧ ItQ B o n c w' ((xs.set a y).set b x) ∧ Lv (fun k => k = o) w w' := by
  obtain ⟨q0, q1, -, -⟩ := blk2 hq
  obtain ⟨c0, c1⟩ := h.cell ha
  obtain ⟨d0, d1⟩ := h.cell hb
  have f0 := h.frz (a * 2)
  have f1 := h.frz (a * 2 + 1)
  have hla : a < n := by have := (List.getElem?_eq_some_iff.1 ha).1; rw [h.2] at this; exact this
  have hlb : b < n := by have := (List.getElem?_eq_some_iff.1 hb).1; rw [h.2] at this; exact this
  have haI : (a : Int) < (n : Int) := by omega
  have hbI : (b : Int) < (n : Int) := by omega
  have h1 := h.set (i := a) y hla
  have hend := h1.set (i := b) x hlb
  have hlv := (lv_set2 w o (a * 2) (a * 2 + 1) (.int .i64 y.1) (.int .i64 y.2)).trans (lv_set2 _ o (b * 2) (b * 2 + 1) (.int .i64 x.1) (.int .i64 x.2)) (E := fun k => k = o) (fun _ _ h => h) (fun _ _ h => h)
  obtain ⟨z, hz⟩ := get_some (xs := xs.set a y) (k := b) (by rw [List.length_set, h.2]; exact hlb)
  obtain ⟨c2, c3⟩ := h1.cell hz
  have f2 := h1.frz (b * 2)
  have f3 := h1.frz (b * 2 + 1)
  have HEND := Lib.hid hend; have HLV := Lib.hid hlv
  obtain ⟨x1, x2⟩ := x
  obtain ⟨y1, y2⟩ := y
  dsimp only at c0 c1 d0 d1 c2 c3 f2 f3
  clear h h1 ha hb hend hlv hz hq
  go_enter Try.func180, Try.ntmps180
  go_wp2
  go_region
  go_wp2
  go_end0
  exact ⟨rfl, HEND.out.ext (Ext.refl _).drew, HLV.out.trans ((Ext.refl _).drew.lv (D := fun _ => False)) (fun _ _ h => h) (fun _ _ h => h.elim)⟩

/-- The queue with its items in a row of their own. -/
def QuV (B g : Nat) (w : World) (p : Option Addr) (n c : Nat) (xs : List Us) : Prop := QuB w g p n c ∧ w.ownsRow B 121 2 (.slice p n c) n (usC xs) ∧ xs.length = n ∧ (Value.slice p n c).ownBlock ≠ some g
theorem row_short2 {B o n c kk : Nat} {t : TypeId} {w : World} {xs : List Value} (h : w.ownsRow B t 2 (.slice (some ⟨o, 0, none⟩) n c) n xs) (hk : kk ≤ n) : w.ownsRow B t 2 (.slice (some ⟨o, 0, none⟩) kk c) kk (xs.take (kk * 2)) := by
  have hl := h.1
  rcases h.2 with ⟨e, _⟩ | ⟨g, cap, cur, e, hB, hg, h1, h2, h3, h4⟩
  · cases e
  · cases e
    refine ⟨by rw [List.length_take]; omega, .inr ⟨o, c, cur, rfl, hB, hg, by omega, h2, by omega, ?_⟩⟩
    rw [← h4, List.take_take, Nat.min_eq_left (by omega)]
set_option linter.unusedVariables false in
set_option maxRecDepth 100000 in
set_option maxHeartbeats 2000000 in
theorem queuePop_any (B g n c o : Nat) (xs : List Us) (x : Us) (w : World) (h : QuV B g w (some ⟨o, 0, none⟩) (n + 1) c xs) (hx : xs[n]? = some x) (hn : n ≤ 100000) (hc : n + 1 ≤ c) (hc2 : c ≤ 9223372036854775807) :
    Calls Try.prog 178 #[.pointer (some ⟨g, 0, none⟩)] w fun e w' => e = .returned (.iface 121 (.agg #[.int .i64 x.1, .int .i64 x.2])) ∧ QuV B g w' (some ⟨o, 0, none⟩) n c (xs.take n) ∧ Lv (fun k => k = g) w w' := by
  obtain ⟨hq, hrow, hlen, hgB⟩ := h
  obtain ⟨q0, q1, qf0, qf1⟩ := blk2 hq
  obtain ⟨c0, c1⟩ := ItQ.cell (⟨hrow, hlen⟩ : ItQ B o (n + 1) c w xs) hx
  have hob := World.ownsRow.lt hrow o rfl
  have hgw : g < w.heap.size := lt_of_block hq
  obtain ⟨x1, x2⟩ := x
  dsimp only at c0 c1 ⊢
  obtain ⟨n1, hn1⟩ : ∃ m, n + 1 = m := ⟨_, rfl⟩
  have e3 : (n1 : Int) - 1 = (n : Int) := by omega
  have hn1I : (n : Int) < (n1 : Int) := by omega
  have hnc : (n : Int) ≤ (c : Int) := by omega
  obtain ⟨W2, hW2⟩ : ∃ W, (w.setCell ⟨g, 0, none⟩ (.slice (some ⟨o, 0, none⟩) n c)).alloc (.cells #[.int .i64 x1, .int .i64 x2] 121) = W := ⟨_, rfl⟩
  have hlv : Lv (fun k => k = g) w W2 := by
    rw [← hW2]
    exact (lv_set w g 0 _).trans (((Ext.refl _).alloc _).lv (D := fun _ => False)) (fun _ _ h => h) (fun _ _ h => h.elim)
  have hQ2 : QuB W2 g (some ⟨o, 0, none⟩) n c := by rw [← hW2]; exact blk_old (blk2_set0' hq)
  have hrow2 : W2.ownsRow B 121 2 (.slice (some ⟨o, 0, none⟩) n c) n (usC (xs.take n)) := by
    have h1 := row_short2 hrow (kk := n) (by omega)
    rw [← usC_take] at h1
    exact row_lv h1 hlv (fun b hb e => hgB (by rw [← e]; exact hb))
  have HEND : Hid (QuV B g W2 (some ⟨o, 0, none⟩) n c (xs.take n)) := Lib.hid ⟨hQ2, hrow2, by rw [List.length_take]; omega, hgB⟩
  have HLV := Lib.hid hlv
  have HW2 := Lib.hid hW2
  rw [hn1] at q0
  clear hrow hrow2 hlv hq hQ2 hW2
  go_enter Try.func178, Try.ntmps178
  go_wp2
  go_ret
  rw [HW2.out]
  exact ⟨rfl, HEND.out, HLV.out⟩
theorem cell_blkQ {W W' : World} {b o : Nat} (h : W'.heap[b]? = W.heap[b]?) : W'.cell? ⟨b, o, none⟩ = W.cell? ⟨b, o, none⟩ := by
  unfold World.cell?
  simp only [h]
theorem infoUsQ : (Try.prog.info? 121).map (fun i => (i.zero, i.size, i.bytes)) = some (some (.agg #[.int .i64 0, .int .i64 0]), 2, 16) := by kernel_rfl
theorem row_someQ {B n size : Nat} {t : TypeId} {w : World} {v : Value} {vs : List Value} (h : w.ownsRow B t size v n vs) (h0 : n ≠ 0) : ∃ g c, v = .slice (some ⟨g, 0, none⟩) n c ∧ B ≤ g ∧ g < w.heap.size := by
  rcases h.2 with ⟨_, h1⟩ | ⟨g, cap, cur, rfl, _⟩
  · omega
  · exact ⟨g, cap, rfl, World.ownsRow.lt h g rfl⟩
set_option linter.unusedVariables false in
set_option linter.unusedSimpArgs false in
set_option maxRecDepth 100000 in
set_option maxHeartbeats 4000000 in
theorem queuePush_any (B g n c : Nat) (p : Option Addr) (xs : List Us) (x : Us) (w : World) (h : QuV B g w p n c xs) (hn : n ≤ 100000) (hB : B ≤ w.heap.size) :
    Calls Try.prog 179 #[.pointer (some ⟨g, 0, none⟩), .iface 121 (.agg #[.int .i64 x.1, .int .i64 x.2])] w fun e w' => e = .returned (.tuple #[]) ∧ ∃ o c', QuV B g w' (some ⟨o, 0, none⟩) (n + 1) c' (xs ++ [x]) ∧ Lv (fun k => k = g ∨ (Value.slice p n c).ownBlock = some k) w w' ∧ ((Value.slice p n c).ownBlock = some o ∨ w.heap.size ≤ o) := by
  obtain ⟨i0, hi, hz0, hz1, hz2⟩ := info_parts infoUsQ
  obtain ⟨hbox, hrow, hlen, hgB⟩ := h
  obtain ⟨hcell, -, hfz, -⟩ := blk2 hbox
  obtain ⟨x1, x2⟩ := x
  dsimp only
  have hgw : g < w.heap.size := lt_of_block hbox
  have HRW := Lib.hid hrow
  have HC0 : Hid (w.drew.cell? ⟨g, 0, none⟩ = some (.slice p n c)) := Lib.hid hcell
  have HC1 : Hid (∀ W : World, Ext w W → W.cell? ⟨g, 0, none⟩ = some (.slice p n c)) := Lib.hid (fun W hE => hE.keep hcell)
  have HKEEP : Hid (∀ A W : World, Ext w A → A.grownBy W (Value.slice p n c).ownBlock → W.cell? ⟨g, 0, none⟩ = some (.slice p n c)) := Lib.hid (fun A W hE hg => (cell_blkQ (hg.block g (Nat.lt_of_lt_of_le hgw hE.size_le) (fun e => hgB e.symm))).trans (hE.keep hcell))
  have HFRZ : Hid (∀ A W : World, Ext w A → A.grownBy W (Value.slice p n c).ownBlock → W.frozen? ⟨g, 0, none⟩ = false) := Lib.hid (fun A W hE hg => by
    have h1 := hg.block g (Nat.lt_of_lt_of_le hgw hE.size_le) (fun e => hgB e.symm)
    have h2 := hE.block g hgw
    have h3 : W.heap[g]? = w.heap[g]? := h1.trans h2
    have h4 : W.frozen? ⟨g, 0, none⟩ = w.frozen? ⟨g, 0, none⟩ := by unfold World.frozen?; simp only [h3]
    rw [h4]; exact hfz)
  have HSTEP : Hid (∀ (A W : World) (o c' : Nat), Ext w A → A.grownBy W (Value.slice p n c).ownBlock → W.ownsRow B 121 2 (.slice (some ⟨o, 0, none⟩) (n + 1) c') (n + 1) (usC xs ++ [.int .i64 x1, .int .i64 x2]) → ((Value.slice (some ⟨o, 0, none⟩) (n + 1) c').ownBlock = (Value.slice p n c).ownBlock ∨ (Value.slice (some ⟨o, 0, none⟩) (n + 1) c').ownBlock = some A.heap.size) →
      QuV B g (W.setCell ⟨g, 0, none⟩ (.slice (some ⟨o, 0, none⟩) (n + 1) c')) (some ⟨o, 0, none⟩) (n + 1) c' (xs ++ [(x1, x2)]) ∧ Lv (fun k => k = g ∨ (Value.slice p n c).ownBlock = some k) w (W.setCell ⟨g, 0, none⟩ (.slice (some ⟨o, 0, none⟩) (n + 1) c')) ∧ ((Value.slice p n c).ownBlock = some o ∨ w.heap.size ≤ o)) := Lib.hid (fun A W o c' hE hg hown hat => by
    have hlv := lv_set W g 0 (.slice (some ⟨o, 0, none⟩) (n + 1) c')
    have hoB := World.ownsRow.lt hown o rfl
    have hbW : QuB W g p n c := ((hg.block g (Nat.lt_of_lt_of_le hgw hE.size_le) (fun e => hgB e.symm)).trans (hE.block g hgw)).trans hbox
    have hog : o ≠ g := fun e => by
      rcases hat with h | h
      · exact hgB (by rw [← h, ← e]; rfl)
      · simp only [Value.ownBlock, Option.some.injEq] at h
        have := hE.size_le
        omega
    refine ⟨⟨blk2_set0' hbW, ?_, by rw [List.length_append, hlen]; rfl, fun e => hog (by simpa [Value.ownBlock] using e)⟩, ?_, ?_⟩
    · rw [usC_app]
      exact row_lv hown hlv (fun b hb e => hog (by simp only [Value.ownBlock, Option.some.injEq] at hb; omega))
    · refine ((hE.lv (D := fun _ => False)).trans (Lv.grown (D := fun k => (Value.slice p n c).ownBlock = some k) hg (fun r hr _ => hr)) (E := fun k => k = g ∨ (Value.slice p n c).ownBlock = some k) (fun _ _ h => h.elim) (fun _ _ h => .inr h)).trans hlv (fun _ _ h => h) (fun _ _ h => .inl h)
    · rcases hat with e | e
      · exact .inl (by rw [← e]; rfl)
      · simp only [Value.ownBlock, Option.some.injEq] at e
        have := hE.size_le
        exact .inr (by omega))
  have hta : ∀ W : World, (Instr.typeAssert (.iface 121 (.agg #[.int .i64 x1, .int .i64 x2])) 20 121 false).run Try.prog W = .ok (.agg #[.int .i64 x1, .int .i64 x2]) W := fun _ => by kernel_rfl
  clear hcell hrow hfz hbox
  go_enter Try.func179, Try.ntmps179
  go_upto_region 0 with (fail)
  refine wp_region_last (S := (fun W => W.cell? ⟨g, 0, none⟩ = some (.slice p n c))) (by kernel_rfl) HC0.out (fun hHeld => ?_)
  refine tkL (some 4) 0 ?vp1 rfl (by kernel_rfl) (by kernel_rfl) (fun _ _ _ h => h) (Or.inl ⟨by rfl, ?hyp1⟩) (by assumption) ?rp1
  case hyp1 => intro w hSw; (try dsimp only at hSw); go_simp; first | done | with_reducible rfl
  case' rp1 => try simp only [Act.put, List.setIfInBounds_toArray, List.set_cons_zero, List.set_cons_succ]
  refine tkL (some 5) 1 ?vp2 rfl (by kernel_rfl) (by kernel_rfl) (fun _ _ _ h => h) (Or.inl ⟨by rfl, ?hyp2⟩) (by assumption) ?rp2
  case hyp2 => intro w hSw; (try dsimp only at hSw); go_simp; first | done | with_reducible rfl
  case' rp2 => try simp only [Act.put, List.setIfInBounds_toArray, List.set_cons_zero, List.set_cons_succ]
  refine tkL (some 6) 2 ?vp3 rfl (by kernel_rfl) (by kernel_rfl) (fun _ _ _ h => h) (Or.inl ⟨by rfl, ?hyp3⟩) (by assumption) ?rp3
  case hyp3 => intro w hSw; (try dsimp only at hSw); go_simp; first | done | with_reducible rfl
  case' rp3 => try simp only [Act.put, List.setIfInBounds_toArray, List.set_cons_zero, List.set_cons_succ]
  refine tkL (some 7) 3 ?vp4 rfl (by kernel_rfl) (by kernel_rfl) (fun _ _ _ h => h) (Or.inl ⟨by rfl, ?hyp4⟩) (by assumption) ?rp4
  case hyp4 => intro w hSw; (try dsimp only at hSw); go_simp; first | done | with_reducible rfl
  case' rp4 => try simp only [Act.put, List.setIfInBounds_toArray, List.set_cons_zero, List.set_cons_succ]
  refine tkL (some 8) 4 ?vp5 rfl (by kernel_rfl) (by kernel_rfl) (fun _ _ _ h => h) (Or.inl ⟨by rfl, ?hyp5⟩) (by assumption) ?rp5
  case hyp5 => intro w hSw; (try dsimp only at hSw); go_simp; first | done | with_reducible rfl
  case' rp5 => try simp only [Act.put, List.setIfInBounds_toArray, List.set_cons_zero, List.set_cons_succ]
  refine tkL (some 9) 5 ?vp6 rfl (by kernel_rfl) (by kernel_rfl) (fun _ _ _ h => h) (Or.inl ⟨by rfl, ?hyp6⟩) (by assumption) ?rp6
  case hyp6 => intro w hSw; (try dsimp only at hSw); go_simp; first | done | with_reducible rfl
  case' rp6 => try simp only [Act.put, List.setIfInBounds_toArray, List.set_cons_zero, List.set_cons_succ]
  refine tkL (some 10) 6 ?vp7 rfl (by kernel_rfl) (by kernel_rfl) (fun _ _ _ h => h) (Or.inl ⟨by rfl, ?hyp7⟩) (by assumption) ?rp7
  case hyp7 => intro w hSw; (try dsimp only at hSw); go_simp; first | done | with_reducible rfl
  case' rp7 => try simp only [Act.put, List.setIfInBounds_toArray, List.set_cons_zero, List.set_cons_succ]
  refine oneL (i := 7) rfl (by kernel_rfl) (fun K9 hK => ?_)
  go_simp
  refine hK.out _ _ (HC1.out _ ((Ext.refl w).drew.alloc _)) (fun hHp7 => ?_)
  clear hK K9
  try simp only [Act.put, List.setIfInBounds_toArray, List.set_cons_zero, List.set_cons_succ]
  refine oneL (i := 8) rfl (by kernel_rfl) (fun K9 hK => ?_)
  have ho := ownsRow_ext HRW.out ((Ext.refl w).drew.alloc (.cells #[.int .i64 x1, .int .i64 x2] 121))
  refine step_append_at _ rfl (.tmp 8) (.tmp 11) 126 rfl B 121 i0 (.agg #[.int .i64 0, .int .i64 0]) 2 16 Try.underlying126 hi hz0 hz1 hz2 rfl (by decide) (.slice p n c) n _ rfl ho ⟨w.drew.heap.size, 0, none⟩ 1 1 [.int .i64 x1, .int .i64 x2] rfl rfl ?c1 (by intro u hu; simp at hu; rcases hu with rfl | rfl <;> rfl) (by unfold maxLen; omega) (by omega) (by have h9 : w.drew.heap.size = w.heap.size := rfl; simp; omega) ?_
  case c1 =>
    have hb : (w.drew.alloc (.cells #[.int .i64 x1, .int .i64 x2] 121)).heap[w.drew.heap.size]? = some (.cells #[.int .i64 x1, .int .i64 x2] 121 (0, 0)) := blk_at rfl
    obtain ⟨b0, b1, -, -⟩ := blk2 hb
    intro q u hq
    match q, hq with
    | 0, hq => simp at hq; subst hq; simp [Addr.add]
    | 1, hq => simp at hq; subst hq; simp [Addr.add]
  intro v' w7 hown7 hgr7 hnil7 hat7
  obtain ⟨o5, d5, rfl, -⟩ := row_someQ hown7 (by omega)
  have hc7 := HKEEP.out _ _ ((Ext.refl w).drew.alloc (.cells #[.int .i64 x1, .int .i64 x2] 121)) hgr7
  have hf7 := HFRZ.out _ _ ((Ext.refl w).drew.alloc (.cells #[.int .i64 x1, .int .i64 x2] 121)) hgr7
  refine hK.out _ _ (HKEEP.out _ _ ((Ext.refl w).drew.alloc _) hgr7) (fun hHp8 => ?_)
  clear hK K9
  try simp only [Act.put, List.setIfInBounds_toArray, List.set_cons_zero, List.set_cons_succ]
  refine tkL (some 13) 9 ?vp9 rfl (by kernel_rfl) (by kernel_rfl) (fun _ _ _ h => h) (Or.inl ⟨by rfl, ?hyp9⟩) (by assumption) ?rp9
  case hyp9 => intro w hSw; (try dsimp only at hSw); go_simp; first | done | with_reducible rfl
  case' rp9 => try simp only [Act.put, List.setIfInBounds_toArray, List.set_cons_zero, List.set_cons_succ]
  refine tkL (some 14) 10 ?vp10 rfl (by kernel_rfl) (by kernel_rfl) (fun _ _ _ h => h) (Or.inl ⟨by rfl, ?hyp10⟩) (by assumption) ?rp10
  case hyp10 => intro w hSw; (try dsimp only at hSw); go_simp; first | done | with_reducible rfl
  case' rp10 => try simp only [Act.put, List.setIfInBounds_toArray, List.set_cons_zero, List.set_cons_succ]
  refine lastL (i := 11) rfl (by kernel_rfl) (by kernel_rfl) (fun K9 hK => ?_)
  go_simp
  refine hK.out _ _ ?_
  clear hK K9
  try simp only [Act.put, List.setIfInBounds_toArray, List.set_cons_zero, List.set_cons_succ]
  have hst := HSTEP.out _ _ o5 d5 ((Ext.refl w).drew.alloc (.cells #[.int .i64 x1, .int .i64 x2] 121)) hgr7 hown7 (by simpa using hat7)
  have HST := Lib.hid hst
  clear hst hgr7 hown7 hat7 hnil7 ho hHeld hc7 hf7
  go_wp2
  go_end0
  exact ⟨rfl, _, _, HST.out.1, HST.out.2.1, HST.out.2.2⟩
end Go.Proofs.Ytccibfldadflkaa

/- The queue at use: heap.up and heap.down (by qe3.py, out of G80, G81). No statement is proved here. -/
namespace Go.Proofs.Ytccibfldadflkaa
open Go.RowKit Go.Maps

theorem method_queueP (fuel : Nat) (f : FuncId) (name : String) (a : Addr) (w : World)
    (hm : ((Try.prog.info? 64).bind (fun ti => (ti.methods.find? (fun y => y.name == name)).map (fun m => (m.path.isEmpty, m.func)))) = some (true, some (f, true))) :
    (method (fuel + 1) 64 (.pointer (some a)) name).run Try.prog w = .ok (f, .pointer (some a)) w := by
  cases hti : Try.prog.info? 64 with
  | none => rw [hti] at hm; cases hm
  | some ti =>
    rw [hti, Option.bind_some] at hm
    cases hf : ti.methods.find? (fun y => y.name == name) with
    | none => rw [hf] at hm; cases hm
    | some m =>
      rw [hf] at hm
      simp only [Option.map_some, Option.some.injEq, Prod.mk.injEq] at hm
      have h1 : (typeInfo 64).run Try.prog w = .ok ti w := by simp [typeInfo, hti, go_sem]
      have h5 : (underlying 64).run Try.prog w = .ok (.pointer 128) w := by simp [underlying, Try.underlying64, go_sem]
      have h3 : m.path = #[] := by have := hm.1; simpa using this
      unfold method
      rw [Sem.run_bind, h1]
      simp only [Result.andThen_ok, hf, h3, hm.2, follow]
      simp only [Sem.run_bind, Sem.run_pure, Result.andThen_ok, receiverAt, h5]
      have hp : Sem.run Try.prog (Place.get 64 (Place.val (.pointer (some a)))) w = .ok (.pointer (some a)) w := rfl
      rw [hp]
      simp only [Result.andThen_ok]
def upU : Nat → List Us → Nat → List Us
  | 0, xs, _ => xs
  | f + 1, xs, j => if j = 0 then xs else if (xs.getD ((j - 1) / 2) (0, 0)).2 < (xs.getD j (0, 0)).2 then upU f ((xs.set ((j - 1) / 2) (xs.getD j (0, 0))).set j (xs.getD ((j - 1) / 2) (0, 0))) ((j - 1) / 2) else xs
set_option linter.unusedVariables false in
set_option maxRecDepth 100000 in
set_option maxHeartbeats 2000000 in
theorem heapUpU_any (B o n c g j0 : Nat) (xs : List Us) (w : World) (hg : QuB w g (some ⟨o, 0, none⟩) n c) (hgo : g ≠ o) (h : ItQ B o n c w xs) (hj : j0 < n) (hn : n ≤ 1000) :
    Calls Try.prog 158 #[.iface 64 (.pointer (some ⟨g, 0, none⟩)), .int .i64 (j0 : Int)] w fun e w' => e = .returned (.tuple #[]) ∧ ItQ B o n c w' (upU j0 xs j0) ∧ Lv (fun k => k = o) w w' := by
  have HH := Lib.hid h; have HG := Lib.hid hg
  clear h hg
  go_enter Try.func158, Try.ntmps158
  go_wp2
  go_loopw [1] (fun jv wr => ∃ (j f : Nat) (ys : List Us), jv = .int .i64 j ∧ j < n ∧ j ≤ f ∧ upU f ys j = upU j0 xs j0 ∧ ItQ B o n c wr ys ∧ Lv (fun k => k = o) w wr) (fun jv _ => (intOf jv).toNat)
  case atStart => exact ⟨j0, j0, xs, rfl, hj, Nat.le_refl _, rfl, HH.out, Lv.refl _ w⟩
  case round =>
    obtain ⟨j, f, ys, rfl, hjn, hjf, hup, hh, hL⟩ := hrel
    have HUP := Lib.hid hup; have HY := Lib.hid hh; have HL := Lib.hid hL
    clear hup hh hL
    by_cases hz : j = 0
    · subst hz
      have q1 : ((0 : Int) - 1).tdiv 2 = 0 := by decide
      have HU0 : Hid (ys = upU j0 xs j0) := Lib.hid (by rw [← HUP.out]; cases f <;> rfl)
      go_wp2
      go_end0
      exact ⟨rfl, by rw [← HU0.out]; exact HY.out, HL.out⟩
    · obtain ⟨i, hi⟩ : ∃ i, (j - 1) / 2 = i := ⟨_, rfl⟩
      have q1 : ((j : Int) - 1).tdiv 2 = (i : Int) := by rw [Int.tdiv_eq_ediv_of_nonneg (by omega)]; omega
      have q2 : ((j : Int) - 1) / 2 = (i : Int) := by omega
      have hne : ((i : Int) == (j : Int)) = false := by simp; omega
      obtain ⟨x, hx⟩ := get_some (xs := ys) (k := j) (by rw [HY.out.2]; exact hjn)
      obtain ⟨y, hy⟩ := get_some (xs := ys) (k := i) (by rw [HY.out.2]; omega)
      have HX := Lib.hid hx; have HYI := Lib.hid hy
      have hgw : QuB wr g (some ⟨o, 0, none⟩) n c := HL.out.heap HG.out hgo
      clear hx hy
      have hme : ∀ fl : Nat, (method (fl + 1) 64 (.pointer (some ⟨g, 0, none⟩)) "Less").run Try.prog wr = .ok (177, .pointer (some ⟨g, 0, none⟩)) wr := fun fl => method_queueP fl 177 "Less" ⟨g, 0, none⟩ wr (by kernel_rfl)
      go_wp2_with (fail)
      refine (queueLess_any B g o n c j i ys x y _ hgw HY.out HX.out HYI.out).mono ?_
      rintro e w1 ⟨rfl, hE⟩
      have H1 := Lib.hid (HY.out.ext hE)
      have L1 := Lib.hid (HL.out.trans (hE.lv (D := fun _ => False)) (E := fun k => k = o) (fun _ _ h => h) (fun _ _ h => h.elim))
      have hgw1 : QuB w1 g (some ⟨o, 0, none⟩) n c := hE.blk hgw
      clear hE hme hgw
      obtain ⟨f, rfl⟩ : ∃ f', f = f' + 1 := ⟨f - 1, by omega⟩
      have gx : ys.getD j (0, 0) = x := by rw [List.getD_eq_getElem?_getD, HX.out]; rfl
      have gy : ys.getD i (0, 0) = y := by rw [List.getD_eq_getElem?_getD, HYI.out]; rfl
      have HU : Hid (upU (f + 1) ys j = if y.2 < x.2 then upU f ((ys.set i x).set j y) i else ys) := Lib.hid (by
        show (if j = 0 then ys else if (ys.getD ((j - 1) / 2) (0, 0)).2 < (ys.getD j (0, 0)).2 then _ else ys) = _
        rw [if_neg hz, hi, gx, gy])
      clear gx gy
      by_cases hlt : y.2 < x.2
      · have hd : decide (y.2 < x.2) = true := by simpa using hlt
        have HU2 : Hid (upU f ((ys.set i x).set j y) i = upU j0 xs j0) := Lib.hid (by rw [← HUP.out, HU.out, if_pos hlt])
        have hij : i < j := by omega
        have hme : ∀ fl : Nat, (method (fl + 1) 64 (.pointer (some ⟨g, 0, none⟩)) "Swap").run Try.prog w1 = .ok (180, .pointer (some ⟨g, 0, none⟩)) w1 := fun fl => method_queueP fl 180 "Swap" ⟨g, 0, none⟩ w1 (by kernel_rfl)
        clear hlt
        go_wp2_with (fail)
        refine (queueSwap_any B g o n c i j ys y x _ hgw1 H1.out HYI.out HX.out).mono ?_
        rintro e w2 ⟨rfl, hh, hL⟩
        have H2 := Lib.hid hh
        have L2 := Lib.hid (L1.out.trans hL (E := fun k => k = o) (fun _ _ h => h) (fun _ _ h => h))
        clear hh hL hme hgw1
        go_wp2
        go_roundw
        case rel => exact ⟨i, f, _, by go_num, by omega, by omega, HU2.out, H2.out, L2.out⟩
        case measure => simp [intOf]; omega
      · have hd : decide (y.2 < x.2) = false := by simpa using hlt
        have HU2 : Hid (ys = upU j0 xs j0) := Lib.hid (by rw [← HUP.out, HU.out, if_neg hlt])
        clear hlt
        go_wp2
        go_end0
        exact ⟨rfl, by rw [← HU2.out]; exact H1.out, L1.out⟩
/-- The child that may go up. -/
def kidU (xs : List Us) (i n : Nat) : Nat := if 2 * i + 2 < n ∧ (xs.getD (2 * i + 1) (0, 0)).2 < (xs.getD (2 * i + 2) (0, 0)).2 then 2 * i + 2 else 2 * i + 1
def dnU : Nat → List Us → Nat → Nat → List Us
  | 0, xs, _, _ => xs
  | f + 1, xs, i, n => if n ≤ 2 * i + 1 then xs else if (xs.getD i (0, 0)).2 < (xs.getD (kidU xs i n) (0, 0)).2 then dnU f ((xs.set i (xs.getD (kidU xs i n) (0, 0))).set (kidU xs i n) (xs.getD i (0, 0))) (kidU xs i n) n else xs
theorem getD_someU {xs : List Us} {i : Nat} {x : Us} (h : xs[i]? = some x) : xs.getD i (0, 0) = x := by rw [List.getD_eq_getElem?_getD, h]; rfl
set_option linter.unusedVariables false in
set_option linter.unusedSimpArgs false in
set_option maxRecDepth 100000 in
set_option maxHeartbeats 4000000 in
theorem heapDnU_any (B o n c g i0 nn : Nat) (xs : List Us) (w : World) (hg : QuB w g (some ⟨o, 0, none⟩) n c) (hgo : g ≠ o) (h : ItQ B o n c w xs) (hj : i0 ≤ nn) (hnn : nn ≤ n) (hn : n ≤ 1000) :
    Calls Try.prog 157 #[.iface 64 (.pointer (some ⟨g, 0, none⟩)), .int .i64 (i0 : Int), .int .i64 (nn : Int)] w fun e w' => (∃ b, e = .returned (.bool b)) ∧ ItQ B o n c w' (dnU nn xs i0 nn) ∧ Lv (fun k => k = o) w w' := by
  have HH := Lib.hid h; have HG := Lib.hid hg
  clear h hg
  go_enter Try.func157, Try.ntmps157
  go_wp2
  go_loopw [7] (fun jv wr => ∃ (i f : Nat) (ys : List Us), jv = .int .i64 i ∧ i ≤ nn ∧ nn ≤ f + i ∧ dnU f ys i nn = dnU nn xs i0 nn ∧ ItQ B o n c wr ys ∧ Lv (fun k => k = o) w wr) (fun jv _ => nn - (intOf jv).toNat)
  case atStart => exact ⟨i0, nn, xs, rfl, hj, by omega, rfl, HH.out, Lv.refl _ w⟩
  case round =>
    obtain ⟨i, f, ys, rfl, hin, hif, hup, hh, hL⟩ := hrel
    have HUP := Lib.hid hup; have HY := Lib.hid hh; have HL := Lib.hid hL
    clear hup hh hL
    obtain ⟨k1, hk1⟩ : ∃ k1, 2 * i + 1 = k1 := ⟨_, rfl⟩
    obtain ⟨k2, hk2⟩ : ∃ k2, k1 + 1 = k2 := ⟨_, rfl⟩
    have hi1 : 2 * (i : Int) + 1 = (k1 : Int) := by omega
    have hi2 : (k1 : Int) + 1 = (k2 : Int) := by omega
    have hd1 : decide ((k1 : Int) < 0) = false := by simp
    have hkk : 2 * i + 2 = k2 := by omega
    by_cases hz : nn ≤ k1
    · have hd0 : decide ((nn : Int) ≤ (k1 : Int)) = true := by simp; omega
      have HU0 : Hid (ys = dnU nn xs i0 nn) := Lib.hid (by
        rw [← HUP.out]
        cases f with
        | zero => rfl
        | succ f => show ys = (if nn ≤ 2 * i + 1 then ys else _); rw [if_pos (by omega)])
      go_wp2
      go_ret
      exact ⟨⟨_, rfl⟩, by rw [← HU0.out]; exact HY.out, HL.out⟩
    · have hd0 : decide ((nn : Int) ≤ (k1 : Int)) = false := by simp; omega
      obtain ⟨x, hx⟩ := get_some (xs := ys) (k := i) (by rw [HY.out.2]; omega)
      obtain ⟨x1, hx1⟩ := get_some (xs := ys) (k := k1) (by rw [HY.out.2]; omega)
      have HX := Lib.hid hx
      have hgw : QuB wr g (some ⟨o, 0, none⟩) n c := HL.out.heap HG.out hgo
      obtain ⟨f, rfl⟩ : ∃ f', f = f' + 1 := ⟨f - 1, by omega⟩
      have HU0 : Hid (dnU (f + 1) ys i nn = if x.2 < (ys.getD (kidU ys i nn) (0, 0)).2 then dnU f ((ys.set i (ys.getD (kidU ys i nn) (0, 0))).set (kidU ys i nn) x) (kidU ys i nn) nn else ys) := Lib.hid (by
        show (if nn ≤ 2 * i + 1 then ys else if (ys.getD i (0, 0)).2 < (ys.getD (kidU ys i nn) (0, 0)).2 then _ else ys) = _
        rw [if_neg (by omega), getD_someU hx])
      by_cases h2 : k2 < nn
      · have hd2 : decide ((k2 : Int) < (nn : Int)) = true := by simp; omega
        obtain ⟨x2, hx2⟩ := get_some (xs := ys) (k := k2) (by rw [HY.out.2]; omega)
        have HX1 := Lib.hid hx1; have HX2 := Lib.hid hx2
        have HK0 : Hid (kidU ys i nn = if x1.2 < x2.2 then k2 else k1) := Lib.hid (by
          unfold kidU
          rw [hkk, hk1, getD_someU hx2, getD_someU hx1]
          by_cases hq : x1.2 < x2.2
          · rw [if_pos ⟨h2, hq⟩, if_pos hq]
          · rw [if_neg (fun h => hq h.2), if_neg hq])
        have hme : ∀ fl : Nat, (method (fl + 1) 64 (.pointer (some ⟨g, 0, none⟩)) "Less").run Try.prog wr = .ok (177, .pointer (some ⟨g, 0, none⟩)) wr := fun fl => method_queueP fl 177 "Less" ⟨g, 0, none⟩ wr (by kernel_rfl)
        clear hx hx1 hx2
        go_wp2_with (fail)
        refine (queueLess_any B g o n c k2 k1 ys x2 x1 _ hgw HY.out HX2.out HX1.out).mono ?_
        rintro e wk ⟨rfl, hE⟩
        have HK := Lib.hid (HY.out.ext hE)
        have LK := Lib.hid (HL.out.trans (hE.lv (D := fun _ => False)) (E := fun k => k = o) (fun _ _ h => h) (fun _ _ h => h.elim))
        have HGW : Hid (QuB wk g (some ⟨o, 0, none⟩) n c) := Lib.hid (hE.blk hgw)
        clear hE hme hgw
        by_cases hq : x1.2 < x2.2
        · have hdq : decide (x1.2 < x2.2) = true := by simpa using hq
          have HZ := HX2
          obtain ⟨z, hzz⟩ : ∃ z, x2 = z := ⟨_, rfl⟩
          have HU : Hid (dnU (f + 1) ys i nn = if x.2 < z.2 then dnU f ((ys.set i z).set k2 x) k2 nn else ys) := Lib.hid (by rw [HU0.out, HK0.out, if_pos hq, getD_someU HX2.out, hzz])
          rw [hzz] at HZ hdq
          try rw [hzz]
          clear hq hzz
          have hgwR := HGW.out
          have hmeR : ∀ fl : Nat, (method (fl + 1) 64 (.pointer (some ⟨g, 0, none⟩)) "Less").run Try.prog wk = .ok (177, .pointer (some ⟨g, 0, none⟩)) wk := fun fl => method_queueP fl 177 "Less" ⟨g, 0, none⟩ wk (by kernel_rfl)
          go_wp2_with (fail)
          refine (queueLess_any B g o n c k2 i ys z x _ hgwR HK.out HZ.out HX.out).mono ?_
          rintro e w3 ⟨rfl, hE⟩
          have H3 := Lib.hid (HK.out.ext hE)
          have L3 := Lib.hid (LK.out.trans (hE.lv (D := fun _ => False)) (E := fun k => k = o) (fun _ _ h => h) (fun _ _ h => h.elim))
          have hgw3 : QuB w3 g (some ⟨o, 0, none⟩) n c := hE.blk hgwR
          clear hE hmeR hgwR
          by_cases hlt : x.2 < z.2
          · have hd : decide (x.2 < z.2) = true := by simpa using hlt
            have HU2 : Hid (dnU f ((ys.set i z).set (k2) x) (k2) nn = dnU nn xs i0 nn) := Lib.hid (by rw [← HUP.out, HU.out, if_pos hlt])
            have hme : ∀ fl : Nat, (method (fl + 1) 64 (.pointer (some ⟨g, 0, none⟩)) "Swap").run Try.prog w3 = .ok (180, .pointer (some ⟨g, 0, none⟩)) w3 := fun fl => method_queueP fl 180 "Swap" ⟨g, 0, none⟩ w3 (by kernel_rfl)
            clear hlt
            go_wp2_with (fail)
            refine (queueSwap_any B g o n c i k2 ys x z _ hgw3 H3.out HX.out HZ.out).mono ?_
            rintro e w4 ⟨rfl, hh, hL⟩
            have H4 := Lib.hid hh
            have L4 := Lib.hid (L3.out.trans hL (E := fun k => k = o) (fun _ _ h => h) (fun _ _ h => h))
            clear hh hL hme hgw3
            go_wp2
            go_roundw
            case rel => exact ⟨k2, f, _, by go_num, by omega, by omega, HU2.out, H4.out, L4.out⟩
            case measure => simp [intOf]; omega
          · have hd : decide (x.2 < z.2) = false := by simpa using hlt
            have HU2 : Hid (ys = dnU nn xs i0 nn) := Lib.hid (by rw [← HUP.out, HU.out, if_neg hlt])
            clear hlt
            go_wp2
            go_ret
            exact ⟨⟨_, rfl⟩, by rw [← HU2.out]; exact H3.out, L3.out⟩
        · have hdq : decide (x1.2 < x2.2) = false := by simpa using hq
          have HZ := HX1
          obtain ⟨z, hzz⟩ : ∃ z, x1 = z := ⟨_, rfl⟩
          have HU : Hid (dnU (f + 1) ys i nn = if x.2 < z.2 then dnU f ((ys.set i z).set k1 x) k1 nn else ys) := Lib.hid (by rw [HU0.out, HK0.out, if_neg hq, getD_someU HX1.out, hzz])
          rw [hzz] at HZ hdq
          try rw [hzz]
          clear hq hzz
          have hgwR := HGW.out
          have hmeR : ∀ fl : Nat, (method (fl + 1) 64 (.pointer (some ⟨g, 0, none⟩)) "Less").run Try.prog wk = .ok (177, .pointer (some ⟨g, 0, none⟩)) wk := fun fl => method_queueP fl 177 "Less" ⟨g, 0, none⟩ wk (by kernel_rfl)
          go_wp2_with (fail)
          refine (queueLess_any B g o n c k1 i ys z x _ hgwR HK.out HZ.out HX.out).mono ?_
          rintro e w3 ⟨rfl, hE⟩
          have H3 := Lib.hid (HK.out.ext hE)
          have L3 := Lib.hid (LK.out.trans (hE.lv (D := fun _ => False)) (E := fun k => k = o) (fun _ _ h => h) (fun _ _ h => h.elim))
          have hgw3 : QuB w3 g (some ⟨o, 0, none⟩) n c := hE.blk hgwR
          clear hE hmeR hgwR
          by_cases hlt : x.2 < z.2
          · have hd : decide (x.2 < z.2) = true := by simpa using hlt
            have HU2 : Hid (dnU f ((ys.set i z).set (k1) x) (k1) nn = dnU nn xs i0 nn) := Lib.hid (by rw [← HUP.out, HU.out, if_pos hlt])
            have hme : ∀ fl : Nat, (method (fl + 1) 64 (.pointer (some ⟨g, 0, none⟩)) "Swap").run Try.prog w3 = .ok (180, .pointer (some ⟨g, 0, none⟩)) w3 := fun fl => method_queueP fl 180 "Swap" ⟨g, 0, none⟩ w3 (by kernel_rfl)
            clear hlt
            go_wp2_with (fail)
            refine (queueSwap_any B g o n c i k1 ys x z _ hgw3 H3.out HX.out HZ.out).mono ?_
            rintro e w4 ⟨rfl, hh, hL⟩
            have H4 := Lib.hid hh
            have L4 := Lib.hid (L3.out.trans hL (E := fun k => k = o) (fun _ _ h => h) (fun _ _ h => h))
            clear hh hL hme hgw3
            go_wp2
            go_roundw
            case rel => exact ⟨k1, f, _, by go_num, by omega, by omega, HU2.out, H4.out, L4.out⟩
            case measure => simp [intOf]; omega
          · have hd : decide (x.2 < z.2) = false := by simpa using hlt
            have HU2 : Hid (ys = dnU nn xs i0 nn) := Lib.hid (by rw [← HUP.out, HU.out, if_neg hlt])
            clear hlt
            go_wp2
            go_ret
            exact ⟨⟨_, rfl⟩, by rw [← HU2.out]; exact H3.out, L3.out⟩
      · have hd2 : decide ((k2 : Int) < (nn : Int)) = false := by simp; omega
        obtain ⟨z, hzz⟩ : ∃ z, x1 = z := ⟨_, rfl⟩
        have HU : Hid (dnU (f + 1) ys i nn = if x.2 < z.2 then dnU f ((ys.set i z).set k1 x) k1 nn else ys) := Lib.hid (by
          have hk : kidU ys i nn = k1 := by unfold kidU; rw [hkk, if_neg (fun h => h2 h.1), hk1]
          rw [HU0.out, hk, getD_someU hx1, hzz])
        rw [hzz] at hx1
        have HZ := Lib.hid hx1; have HK := HY; have LK := HL; have HGW := Lib.hid hgw
        obtain ⟨wk, rfl⟩ : ∃ x, x = wr := ⟨wr, rfl⟩
        clear hx hx1 hgw hzz
        have hgwR := HGW.out
        have hmeR : ∀ fl : Nat, (method (fl + 1) 64 (.pointer (some ⟨g, 0, none⟩)) "Less").run Try.prog wk = .ok (177, .pointer (some ⟨g, 0, none⟩)) wk := fun fl => method_queueP fl 177 "Less" ⟨g, 0, none⟩ wk (by kernel_rfl)
        go_wp2_with (fail)
        refine (queueLess_any B g o n c k1 i ys z x _ hgwR HK.out HZ.out HX.out).mono ?_
        rintro e w3 ⟨rfl, hE⟩
        have H3 := Lib.hid (HK.out.ext hE)
        have L3 := Lib.hid (LK.out.trans (hE.lv (D := fun _ => False)) (E := fun k => k = o) (fun _ _ h => h) (fun _ _ h => h.elim))
        have hgw3 : QuB w3 g (some ⟨o, 0, none⟩) n c := hE.blk hgwR
        clear hE hmeR hgwR
        by_cases hlt : x.2 < z.2
        · have hd : decide (x.2 < z.2) = true := by simpa using hlt
          have HU2 : Hid (dnU f ((ys.set i z).set (k1) x) (k1) nn = dnU nn xs i0 nn) := Lib.hid (by rw [← HUP.out, HU.out, if_pos hlt])
          have hme : ∀ fl : Nat, (method (fl + 1) 64 (.pointer (some ⟨g, 0, none⟩)) "Swap").run Try.prog w3 = .ok (180, .pointer (some ⟨g, 0, none⟩)) w3 := fun fl => method_queueP fl 180 "Swap" ⟨g, 0, none⟩ w3 (by kernel_rfl)
          clear hlt
          go_wp2_with (fail)
          refine (queueSwap_any B g o n c i k1 ys x z _ hgw3 H3.out HX.out HZ.out).mono ?_
          rintro e w4 ⟨rfl, hh, hL⟩
          have H4 := Lib.hid hh
          have L4 := Lib.hid (L3.out.trans hL (E := fun k => k = o) (fun _ _ h => h) (fun _ _ h => h))
          clear hh hL hme hgw3
          go_wp2
          go_roundw
          case rel => exact ⟨k1, f, _, by go_num, by omega, by omega, HU2.out, H4.out, L4.out⟩
          case measure => simp [intOf]; omega
        · have hd : decide (x.2 < z.2) = false := by simpa using hlt
          have HU2 : Hid (ys = dnU nn xs i0 nn) := Lib.hid (by rw [← HUP.out, HU.out, if_neg hlt])
          clear hlt
          go_wp2
          go_ret
          exact ⟨⟨_, rfl⟩, by rw [← HU2.out]; exact H3.out, L3.out⟩
end Go.Proofs.Ytccibfldadflkaa
