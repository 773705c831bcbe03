/- The texts U1, joined. No statement is proved here. -/
import Derived.Test.YtccibfldadflkaaK49
import Derived.Test.YtccibfldadflkaaK23
import Derived.Test.YtccibfldadflkaaK24
import Derived.Maps.OwnIn
/- The next accesses of the cells of a trace: nextUses. No statement is proved here. -/
namespace Go.Proofs.Ytccibfldadflkaa
open Go.RowKit Go.Maps
attribute [local go_sem] Oper.semAt_some

theorem rowOne {R : Nat} {w : World} {z : Int} (h : w.heap[R]? = some (.cells #[.int .i64 z] 3 (0, 0))) : IntsAt w (.slice (some ⟨R, 0, none⟩) 1 1) [z] :=
  IntsOwn.at (own_of_blk (B := 0) (xs := [z]) (by simpa using h) rfl (by omega) (Nat.zero_le _))
/-- The first place at which c stands among the last k, counted in the whole list. -/
def nxM (xs : List Int) : Nat → Int → Option Nat
  | 0, _ => none
  | k + 1, c => if xs[xs.length - 1 - k]? = some c then some (xs.length - 1 - k) else nxM xs k c
theorem IMp.blk {w w' : World} {b n : Nat} {F : Int → Option Value} (h : IMp w b n F) (hb : w'.heap[b]? = w.heap[b]?) : IMp w' b n F := by
  obtain ⟨D, ⟨es, clock, h1, h2⟩, h3⟩ := h
  exact ⟨D, ⟨es, clock, hb.trans h1, h2⟩, h3⟩
theorem upd_In {F : Fence} {nn : Nat} {ops : Array Oper} {rest : List Oper} {o : Oper} {a : Act} {Q : Exit → Act → World → Prop} (w : World) (hg : o.guard = none) (m x v : Operand) (t e : TypeId) (hop : o.op = Op.mapUpdate t m x v)
    (ht : Try.prog.underlying t = some (.map 3 e)) {b n : Nat} {G : Int → Option Value} (hm : a.eval m = .map (some b)) (h : IMp w b n G) (hn : n < maxLen) {c : Int} {val : Value} (hx : a.eval x = .int .i64 c) (hv : a.eval v = val)
    (hc : (Lit.int .i64 c).wf = true) (hK : ∀ w', IMp w' b (n + 1) (updF G c val) → w.grownBy w' (some b) → wpListIn F nn Try.prog ops Q rest (a.put o.dst undef) w') :
    wpListIn F nn Try.prog ops Q (o :: rest) a w := by
  refine wpListIn_plain hg fun K hK' => ?_
  obtain ⟨w', hrun, r1, r2⟩ := h.upd ht hn hc val
  unfold Oper.wpIn
  refine ⟨?_, ?_⟩
  · simp [Oper.about, hop]
  · rw [Oper.semAt_plain F _ _ (by rw [hop]; intro c hc'; cases hc')]
    simp [execOp, hop, hm, hx, hv, hrun, Result.andThen]
    exact hK' _ _ (hK w' r1 r2)
def nxV (xs : List Int) (j : Nat) : Nat := (nxM xs (xs.length - 1 - j) (xs.getD j 0)).getD xs.length
/-- The list when the last k accesses are done. -/
def nxL (xs : List Int) (k : Nat) : List Int := (List.range xs.length).map (fun j => if xs.length ≤ j + k then (nxV xs j : Int) else (xs.length : Int))
def nextF (xs : List Int) (k : Nat) : Int → Option Value := fun c => (nxM xs k c).map (fun (n : Nat) => .int .i64 (n : Int))
theorem nxL_len (xs : List Int) (k : Nat) : (nxL xs k).length = xs.length := by simp [nxL]
theorem nxL_zero (xs : List Int) : nxL xs 0 = List.replicate xs.length (xs.length : Int) := by
  unfold nxL
  refine List.ext_getElem? (fun j => ?_)
  rw [List.getElem?_map, List.getElem?_replicate]
  by_cases hj : j < xs.length
  · rw [List.getElem?_range hj, if_pos hj, Option.map_some, if_neg (by omega)]
  · rw [List.getElem?_eq_none (by simpa using hj), if_neg hj]; rfl
theorem nxL_get {xs : List Int} {k j : Nat} (hj : j < xs.length) : (nxL xs k)[j]? = some (if xs.length ≤ j + k then (nxV xs j : Int) else (xs.length : Int)) := by
  unfold nxL
  rw [List.getElem?_map, List.getElem?_range hj, Option.map_some]
theorem nxL_next {xs : List Int} {k t : Nat} (ht : t + k + 1 = xs.length) : nxL xs (k + 1) = (nxL xs k).set t (nxV xs t : Int) := by
  refine List.ext_getElem? (fun j => ?_)
  rw [List.getElem?_set]
  by_cases hj : j < xs.length
  · rw [nxL_get hj, nxL_get hj, nxL_len]
    by_cases e : t = j
    · subst e; rw [if_pos rfl, if_pos hj, if_pos (by omega)]
    · rw [if_neg e]
      by_cases h : xs.length ≤ j + k
      · rw [if_pos h, if_pos (by omega)]
      · rw [if_neg h, if_neg (by omega)]
  · rw [List.getElem?_eq_none (by rw [nxL_len]; omega), List.getElem?_eq_none (by rw [nxL_len]; omega)]
    have : ¬ (t = j) := by omega
    rw [if_neg this]
theorem nxL_none {xs : List Int} {k t : Nat} {c : Int} (ht : t + k + 1 = xs.length) (hc : xs[t]? = some c) (h : nxM xs k c = none) : nxL xs (k + 1) = nxL xs k := by
  have hv : nxV xs t = xs.length := by
    unfold nxV
    rw [List.getD_eq_getElem?_getD, hc, show xs.length - 1 - t = k by omega]
    simp [h]
  rw [nxL_next ht, hv]
  refine List.ext_getElem? (fun j => ?_)
  rw [List.getElem?_set]
  split
  · rename_i e
    subst e
    rw [if_pos (by rw [nxL_len]; omega), nxL_get (by omega), if_neg (by omega)]
  · rfl
theorem nxV_some {xs : List Int} {k t m : Nat} {c : Int} (ht : t + k + 1 = xs.length) (hc : xs[t]? = some c) (h : nxM xs k c = some m) : nxV xs t = m := by
  unfold nxV
  rw [List.getD_eq_getElem?_getD, hc, show xs.length - 1 - t = k by omega]
  simp [h]
theorem nextF_upd {xs : List Int} {k t : Nat} {c : Int} (ht : t + k + 1 = xs.length) (hc : xs[t]? = some c) : nextF xs (k + 1) = updF (nextF xs k) c (.int .i64 (t : Int)) := by
  funext x
  have e : xs.length - 1 - k = t := by omega
  by_cases hx : x = c
  · subst hx; simp [nextF, updF, nxM, e, hc]
  · have h2 : ¬ c = x := fun h => hx h.symm
    simp [nextF, updF, nxM, e, hc, hx, h2]
set_option linter.unusedVariables false in
set_option linter.unusedSimpArgs false in
set_option maxRecDepth 100000 in
set_option maxHeartbeats 4000000 in
theorem nextUses_any (p : Option Addr) (n c : Nat) (xs : List Int) (w : World) (hn : xs.length = n) (hm : n ≤ 600) (hx : ∀ x ∈ xs, i64 x) (hs : IntsAt w (.slice p n c) xs) :
    Calls Try.prog 93 #[.slice p n c] w fun e w' => (∃ v', e = .returned v' ∧ IntsOwn w.heap.size w' v' (nxL xs n)) ∧ Ext w w' := by
  have HS := Lib.hid hs; have HN := Lib.hid hn; have HX := Lib.hid hx
  have hmm := @run_makeMap Try.prog
  clear hs hn hx
  refine (callsIn_wide (n := 6)).1 ?_
  refine callsIn_of_wp_marks Try.func93 rfl trivial ?_ rfl
  simp only [Try.ntmps93, List.size_toArray, List.length_cons, List.length_nil, Nat.reduceAdd, Nat.reduceSub, Array.replicate_succ, Array.replicate_zero, List.push_toArray, List.append_toArray, List.nil_append, List.cons_append]
  have hdd : ∀ j : Nat, (Fence.wide.depth.isSome = true → 1 ≤ j) := fun j h => by cases h
  obtain ⟨g0, hg0⟩ : ∃ g0, w.heap.size = g0 := ⟨_, rfl⟩
  have HR : Hid ((w.alloc (.cells #[.int .i64 (n : Int)] 3)).heap[g0]? = some (.cells #[.int .i64 (n : Int)] 3 (0, 0))) := Lib.hid (blk_at hg0.symm)
  gi_wp2_with (fail)
  refine ⟨trivial, ?_⟩
  try rw [hg0]
  refine (callsIn_wide.2 (Repeat_any (some ⟨g0, 0, none⟩) 1 n (n : Int) _ (by omega) (rowOne HR.out))).mono ?_
  rintro e w1 ⟨⟨L, rfl, hl⟩, hE⟩
  have HE1 : Hid (Ext w w1) := Lib.hid (((Ext.refl w).alloc _).trans hE)
  have HL1 : Hid (IntsOwn g0 w1 (.slice (some ⟨L, 0, none⟩) n n) (nxL xs 0)) := Lib.hid (by rw [nxL_zero, HN.out]; exact hl.weak (by rw [← hg0]; simp))
  clear hl hE HR
  gi_wp2_with (fail)
  clear hmm
  obtain ⟨LA, hLA⟩ : ∃ LA, w1.heap.size = LA := ⟨_, rfl⟩
  rw [hLA]
  obtain ⟨W2, hW2⟩ : ∃ W2, ((w1.alloc (.cells #[.slice (some ⟨L, 0, none⟩) n n] 22)).alloc (.map #[] 0)).alloc (.cells #[.map (some (LA + 1))] 174) = W2 := ⟨_, rfl⟩
  have hs2 : W2.heap.size = LA + 3 := by rw [← hW2, ← hLA]; simp
  have E2 : Ext w1 W2 := by rw [← hW2]; exact (((Ext.refl w1).alloc _).alloc _).alloc _
  have A2 : W2.heap[LA]? = some (.cells #[.slice (some ⟨L, 0, none⟩) n n] 22 (0, 0)) := by rw [← hW2]; exact blk_old (blk_old (blk_at hLA.symm))
  have M2 : IMp W2 (LA + 1) 0 (nextF xs 0) := by
    have h := IMp.made (w1.alloc (.cells #[.slice (some ⟨L, 0, none⟩) n n] 22))
    have e : nextF xs 0 = (fun _ => none) := rfl
    rw [World.size_alloc, hLA] at h
    rw [← hW2, e]
    exact h.ext ((Ext.refl _).alloc _)
  have P2 : W2.heap[LA + 2]? = some (.cells #[.map (some (LA + 1))] 174 (0, 0)) := by rw [← hW2]; exact blk_at (by simp [hLA])
  have hLl := HL1.out.blockB
  rw [hLA] at hLl
  rw [hW2]
  have HA2 := Lib.hid A2; have HM2 := Lib.hid M2; have HP2 := Lib.hid P2; have HL2 := Lib.hid (HL1.out.ext E2); have HE2 := Lib.hid (HE1.out.trans E2); have HS2 := Lib.hid hs2; have HG0 := Lib.hid hg0; have HSB := Lib.hid (HS.out.ext (HE1.out.trans E2))
  have HPB : Hid (∀ b o, p = some ⟨b, o, none⟩ → 0 < n → b < g0) := Lib.hid (fun b o e h0 => by rw [← hg0]; exact HS.out.blk_lt (by rw [HN.out]; exact h0) e)
  clear A2 M2 P2 E2 HL1 HE1 hs2 hW2 hLA hg0
  refine ⟨trivial, ?_⟩
  refine (callsIn_wide.2 (backI_call p n c W2)).mono ?_
  rintro e wb ⟨rfl, hwb⟩
  have EB : Ext W2 wb := by rw [hwb]; exact (Ext.refl W2).alloc _
  have BP : wb.heap[LA + 3]? = some (.cells #[.slice p n c] 22 (0, 0)) := by rw [hwb]; exact blk_at HS2.out.symm
  have hbs : wb.heap.size = LA + 4 := by rw [hwb, World.size_alloc, HS2.out]
  have HAb := Lib.hid (EB.blk HA2.out); have HMb := Lib.hid (HM2.out.ext EB); have HPb := Lib.hid (EB.blk HP2.out); have HLb := Lib.hid (HL2.out.ext EB); have HEb := Lib.hid (HE2.out.trans EB); have HSb := Lib.hid (HSB.out.ext EB); have HBP := Lib.hid BP; have HBS := Lib.hid hbs
  rw [HS2.out]
  clear hwb EB BP HA2 HM2 HP2 HL2 HE2 HSB hbs
  gi_wp2_with (fail)
  have hbs := HBS.out
  refine wpIn_rangeFunc_base (w := wb) rfl (hdd _) (gf := 119) (lb := #[.pointer (some ⟨LA + 3, 0, none⟩)]) rfl trivial (enters_of Try.func119 (by kernel_rfl) rfl)
    wb.heap.size (Nat.le_refl _) (backI_seqB wb.heap.size _ _ (LA + 3) n c p xs (fun b => b < wb.heap.size ∧ b ≠ L ∧ b ≠ LA + 1) wb HN.out hm HSb.out HBP.out (fun b h => h.1) ⟨by omega, by omega, by omega⟩ (fun b o hb h0 => by have := HPB.out b o hb h0; exact ⟨by omega, by omega, by omega⟩))
    (fun b h => h.1) (fun b h => h.elim) (fun x Wa Wb _ _ => trivial) (fun Wa Wb _ _ => trivial) (fun _ => rfl)
    (fun s own X => own = [L, LA + 1] ∧ Lv (fun k => k ∈ [L, LA + 1]) wb X ∧ IntsOwn g0 X (.slice (some ⟨L, 0, none⟩) n n) (nxL xs s.length) ∧ IMp X (LA + 1) s.length (nextF xs s.length))
    (fun cd s own X => False)
    (by
      rintro s o X X' ⟨rfl, a2, a3, a4⟩ hv
      exact ⟨rfl, a2.trans hv (fun _ _ h => h) (fun b hb h => by omega), row_lv a3 hv (fun b hb hd => by simp only [Value.ownBlock, Option.some.injEq] at hb; subst hb; exact hd.1 (by simp)), a4.blk (hv.block _ a4.lt (fun hd => hd.1 (by simp)))⟩)
    (by
      rintro cd s o X X' h hv
      exact h.elim)
    [L, LA + 1] (fun b hb => by simp at hb; rcases hb with rfl | rfl; exact ⟨by omega, fun h => h.2.1 rfl⟩; exact ⟨by omega, fun h => h.2.2 rfl⟩) ⟨rfl, Lv.refl _ _, HLb.out, HMb.out⟩
    (fun x => { tmps := #[.slice p n c, undef, .slice none 0 0, .pointer (some ⟨LA, 0, none⟩), .pointer (some ⟨LA + 2, 0, none⟩), .int .i64 (x.1 : Int), .int .i64 x.2, undef, undef, .slice p n c, .int .i64 (n : Int), .slice (some ⟨g0, 0, none⟩) 1 1, .slice p n c, .int .i64 (n : Int), .slice (some ⟨L, 0, none⟩) n n, .map (some (LA + 1)), .slice p n c, .func (.func 119) #[] #[.pointer (some ⟨LA + 3, 0, none⟩)], .int .i64 (x.1 : Int), .int .i64 x.2, undef, undef, undef, undef, undef, undef, undef, undef, undef, undef, undef, undef, undef, undef, undef], defers := [] })
    ?assign ?body ?done ?stop
  case assign =>
    intro l2 y X K hK
    obtain ⟨yt, yd⟩ := y
    dsimp only [encK] at hK ⊢
    gi_wp2
    exact hK
  case body =>
    rintro l2 pre0 x ow X ⟨rfl, hLV, hRX, hMX⟩ hpx hrx hob
    obtain ⟨t, d⟩ := x
    have hget : (bkI xs)[pre0.length]? = some (t, d) := by
      obtain ⟨r, hr⟩ := hpx
      rw [← hr]; simp
    obtain ⟨hk1, ht, hd⟩ := bkI_at hget
    obtain ⟨k, hk⟩ : ∃ k, pre0.length = k := ⟨_, rfl⟩
    have hlen : (pre0 ++ [(t, d)]).length = k + 1 := by simp [hk]
    have HLEN := Lib.hid hlen
    rw [hk] at hRX hMX hk1 ht
    have hn := HN.out
    have htk : t + k + 1 = xs.length := by omega
    have hk6 : k ≤ 600 := by omega
    have hdi := HX.out d (List.mem_of_getElem? hd)
    have hlk := hMX.lookOk (T := 174) Try.underlying174 (z := .int .i64 0) (by kernel_rfl) (wfI hdi.1 hdi.2)
    have hUPD := nextF_upd htk hd
    have hAX := hLV.heap HAb.out (fun h => by simp at h; omega)
    have hPX := hLV.heap HPb.out (fun h => by simp at h; omega)
    have htI : (t : Int) < (n : Int) := by omega
    obtain ⟨a0, -⟩ := blk1 hAX
    obtain ⟨p0, -⟩ := blk1 hPX
    have hLM : L ≠ LA + 1 := by omega
    have hnl : (nxL xs k).length = n := by rw [nxL_len, hn]
    cases hnx : nxM xs k d with
    | none =>
      have hF : nextF xs k d = none := by unfold nextF; rw [hnx]; rfl
      rw [hF] at hlk
      dsimp only [Option.getD_none, Option.isSome_none] at hlk
      have HNL := Lib.hid (nxL_none htk hd hnx)
      have HUPD := Lib.hid hUPD; have HLV := Lib.hid hLV; have HRX := Lib.hid hRX; have HOB := Lib.hid hob; have HMX := Lib.hid hMX
      clear hLV hRX hMX hpx hrx hob hget hd hnx hF hUPD hn hlen hk ht htk hnl hAX hPX
      gi_wp2_with (first | (gi_at_mapUpdate; refine upd_In _ rfl _ _ _ _ _ rfl Try.underlying174 rfl HMX.out (by unfold maxLen; omega) rfl rfl (wfI hdi.1 hdi.2) ?_; intro w6 hmp6 hgrow6) | fail)
      have hlv6 := grown_lv hgrow6
      have HM6 : Hid (IMp w6 (LA + 1) (k + 1) (nextF xs (k + 1))) := Lib.hid (by rw [HUPD.out]; exact hmp6)
      have HR6 : Hid (IntsOwn g0 w6 (.slice (some ⟨L, 0, none⟩) n n) (nxL xs (k + 1))) := Lib.hid (by rw [HNL.out]; exact row_lv HRX.out hlv6 (fun b hb e => by simp only [Value.ownBlock, Option.some.injEq] at hb; omega))
      have hg6 : Grew [L, LA + 1] [L, LA + 1] X w6 := Grew.same (hlv6.mono (fun b _ e => by simp [e])) (fun b hb => (HOB.out b hb).1)
      clear hmp6 hgrow6
      gi_wp2
      exact ⟨[L, LA + 1], hg6, rfl, HLV.out.trans hg6.1 (fun _ _ h => h) (fun _ _ h => h), by rw [HLEN.out]; exact HR6.out, by rw [HLEN.out]; exact HM6.out⟩
    | some m =>
      have hF : nextF xs k d = some (.int .i64 (m : Int)) := by unfold nextF; rw [hnx]; rfl
      rw [hF] at hlk
      dsimp only [Option.getD_some, Option.isSome_some] at hlk
      have HNL : Hid (nxL xs (k + 1) = (nxL xs k).set t (m : Int)) := Lib.hid (by rw [nxL_next htk, nxV_some htk hd hnx])
      obtain ⟨u, hu⟩ := get_some (xs := nxL xs k) (k := t) (by omega)
      have hcu := hRX.cellI hu
      have hfz := hRX.frz t
      have hR5 := hRX.store hnl t (m : Int)
      have hM5 : IMp (X.setCell ⟨L, t, none⟩ (.int .i64 (m : Int))) (LA + 1) k (nextF xs k) := hMX.setCell (fun e => by dsimp only at e; omega) _
      have hl5 := lv_set X L t (.int .i64 (m : Int))
      have p5 := lvCell hl5 p0 (fun e => by omega)
      obtain ⟨X5, hX5⟩ : ∃ X5, X.setCell ⟨L, t, none⟩ (.int .i64 (m : Int)) = X5 := ⟨_, rfl⟩
      rw [hX5] at hR5 hM5 hl5 p5
      have HUPD := Lib.hid hUPD; have HLV := Lib.hid hLV; have HOB := Lib.hid hob; have HM5 := Lib.hid hM5; have HR5 := Lib.hid hR5; have HL5 := Lib.hid hl5
      clear hLV hRX hMX hpx hrx hob hget hd hnx hF hUPD hn hlen hk ht htk hnl hAX hPX hu hR5 hM5 hl5
      gi_wp2_with (first | (gi_at_mapUpdate; refine upd_In _ rfl _ _ _ _ _ rfl Try.underlying174 rfl HM5.out (by unfold maxLen; omega) rfl rfl (wfI hdi.1 hdi.2) ?_; intro w6 hmp6 hgrow6) | fail)
      have hlv6 := grown_lv hgrow6
      have HM6 : Hid (IMp w6 (LA + 1) (k + 1) (nextF xs (k + 1))) := Lib.hid (by rw [HUPD.out]; exact hmp6)
      have HR6 : Hid (IntsOwn g0 w6 (.slice (some ⟨L, 0, none⟩) n n) (nxL xs (k + 1))) := Lib.hid (by rw [HNL.out]; exact row_lv HR5.out hlv6 (fun b hb e => by simp only [Value.ownBlock, Option.some.injEq] at hb; omega))
      have hg6 : Grew [L, LA + 1] [L, LA + 1] X w6 := Grew.same (HL5.out.trans hlv6 (fun b _ e => by simp [e]) (fun b _ e => by simp [e])) (fun b hb => (HOB.out b hb).1)
      clear hmp6 hgrow6
      gi_wp2
      exact ⟨[L, LA + 1], hg6, rfl, HLV.out.trans hg6.1 (fun _ _ h => h) (fun _ _ h => h), by rw [HLEN.out]; exact HR6.out, by rw [HLEN.out]; exact HM6.out⟩
  case done =>
    rintro E ow X hE6 hEn ⟨rfl, hLV, hRX, hMX⟩ hob hv6 hz hdf
    rw [bkI_len, HN.out] at hRX
    have hAX := hLV.heap HAb.out (fun h => by simp at h; omega)
    have EX := Lib.hid (hLV.ext0 HEb.out (fun b hb h => by have := HG0.out; simp at h; omega))
    have HRX := Lib.hid hRX; have XE := Lib.hid hdf
    have HEE : Hid (E ≠ L ∧ g0 ≤ E) := Lib.hid ⟨fun e => hEn (by simp [e]), by have := HBS.out; omega⟩
    obtain ⟨la0, -⟩ := blk1 hAX
    clear hLV hRX hMX hob hv6 hz hdf hE6 hEn hAX
    gi_wp2_with (fail)
    refine leaves_marks2 [E] _ (fun E' h => by simp at h; subst h; exact XE.out) (by simp) (fun W' hW' => ?_)
    refine ⟨.slice (some ⟨L, 0, none⟩) n n, by simp [results, Try.results93, go_sem], ⟨_, rfl, ?_⟩, hW'.ext0 EX.out (fun b hb h => by have := HEE.out; have := HG0.out; simp at h; omega)⟩
    rw [HG0.out]
    exact row_lv HRX.out hW' (fun b hb h => by simp only [Value.ownBlock, Option.some.injEq] at hb; simp at h; have := HEE.out.1; omega)
  case stop =>
    rintro E cd qq ow X hE6 hEn hq h hob hv6 hz hdf
    exact h.elim
end Go.Proofs.Ytccibfldadflkaa
