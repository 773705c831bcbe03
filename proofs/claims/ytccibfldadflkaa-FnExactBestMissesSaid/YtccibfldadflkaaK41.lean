/- The texts Qe6 Qe7, joined. No statement is proved here. -/
import Derived.Test.YtccibfldadflkaaK44
import Derived.Test.YtccibfldadflkaaK37
/- The queue's take(0); the cache that knows what comes: its state, hold, count. No statement is proved here. -/
namespace Go.Proofs.Ytccibfldadflkaa
open Go.RowKit Go.Maps

theorem row_capU {B n c o size : Nat} {t : TypeId} {w : World} {vs : List Value} (h : w.ownsRow B t size (.slice (some ⟨o, 0, none⟩) n c) n vs) : n ≤ c ∧ c ≤ 9223372036854775807 := by
  rcases h.2 with ⟨e, _⟩ | ⟨g, cap, cur, e, hB, hg, h1, h2, h3, h4⟩
  · cases e
  · cases e
    unfold maxLen at h2
    exact ⟨h1, h2⟩
theorem QuV.lv {B g n c : Nat} {p : Option Addr} {w w' : World} {xs : List Us} {D : Nat → Prop} (h : QuV B g w p n c xs) (hv : Lv D w w') (h1 : ¬ D g) (h2 : ∀ b, (Value.slice p n c).ownBlock = some b → ¬ D b) : QuV B g w' p n c xs :=
  ⟨hv.heap h.1 h1, row_lv h.2.1 hv h2, h.2.2.1, h.2.2.2⟩

set_option linter.unusedVariables false in
set_option maxRecDepth 100000 in
set_option maxHeartbeats 2000000 in
theorem queueTake_any (B g n c o : Nat) (xs : List Us) (w : World) (h : QuV B g w (some ⟨o, 0, none⟩) (n + 1) c xs) (hok : hpU xs (n + 1)) (hn : n < 1000) :
    Calls Try.prog 153 #[.pointer (some ⟨g, 0, none⟩), .int .i64 0] w fun e w' => e = .returned (.agg #[.int .i64 (itU xs 0).1, .int .i64 (itU xs 0).2]) ∧ (∃ ys, QuV B g w' (some ⟨o, 0, none⟩) n c ys ∧ (itU xs 0 :: ys).Perm xs ∧ hpU ys n) ∧ Lv (fun k => k = g ∨ k = o) w w' := by
  obtain ⟨hx, hy, hz, hperm, hok2, -⟩ := popU_ok h.2.2.1 hok
  obtain ⟨hc1, hc2⟩ := row_capU h.2.1
  obtain ⟨z, hzz⟩ : ∃ z, itU xs 0 = z := ⟨_, rfl⟩
  obtain ⟨y, hyy⟩ : ∃ y, itU xs n = y := ⟨_, rfl⟩
  rw [hzz] at hx hz hperm hok2 ⊢
  rw [hyy] at hy hz hperm hok2
  have hgw : g < w.heap.size := lt_of_block h.1
  have how : o < w.heap.size := (World.ownsRow.lt h.2.1 o rfl).2
  obtain ⟨R, hR⟩ : ∃ R, w.heap.size = R := ⟨_, rfl⟩
  obtain ⟨W0, hW0⟩ : ∃ W, w.alloc (.cells #[.int .i64 0, .int .i64 0] 121) = W := ⟨_, rfl⟩
  have E0 : Ext w W0 := by rw [← hW0]; exact (Ext.refl w).alloc _
  have R0 : W0.heap[R]? = some (.cells #[.int .i64 0, .int .i64 0] 121 (0, 0)) := by rw [← hW0]; exact blk_at hR.symm
  have HQ := Lib.hid (h.ext E0); have HX := Lib.hid hx; have HY := Lib.hid hy; have HZ := Lib.hid hz; have HP := Lib.hid hperm; have HOK := Lib.hid hok2; have HE0 := Lib.hid E0; have HR0 := Lib.hid R0
  have hta : ∀ W : World, (Instr.typeAssert (.iface 121 (.agg #[.int .i64 z.1, .int .i64 z.2])) 20 121 false).run Try.prog W = .ok (.agg #[.int .i64 z.1, .int .i64 z.2]) W := fun _ => by kernel_rfl
  have HGR : Hid (g < R ∧ o < R) := Lib.hid ⟨by omega, by omega⟩
  clear h hx hy hz hperm hok hok2 E0 R0 hzz hyy hgw how
  go_enter Try.func153, Try.ntmps153
  go_wp2
  try rw [hW0]
  try rw [hR]
  clear hW0
  go_loopw [5, 10] (fun b i wr => b = .slice none 0 0 ∧ i = .int .i64 0 ∧ wr = W0) (fun _ _ _ => 0)
  case atStart => exact ⟨rfl, rfl, rfl⟩
  case round =>
    obtain ⟨rfl, rfl, rfl⟩ := hrel
    go_wp2_with (fail)
    refine (heapPopU_any B g n c o xs z y _ HQ.out HX.out HY.out hn hc2 z HZ.out hc1).mono ?_
    rintro e w1 ⟨rfl, hq1, hl1⟩
    have HQ1 := Lib.hid hq1; have HL1 := Lib.hid hl1
    have R1 := hl1.heap HR0.out (fun h => by have := HGR.out; omega)
    obtain ⟨r0, r1, rf0, rf1⟩ := blk2 R1
    clear hq1 hl1 R1
    go_wp2
    obtain ⟨W2, hW2⟩ : ∃ W, w1.alloc (.cells #[.int .i64 z.1, .int .i64 z.2] 121) = W := ⟨_, rfl⟩
    have E2 : Ext w1 W2 := by rw [← hW2]; exact (Ext.refl w1).alloc _
    have T2 : W2.heap[w1.heap.size]? = some (.cells #[.int .i64 z.1, .int .i64 z.2] 121 (0, 0)) := by rw [← hW2]; exact blk_at rfl
    have R2 := E2.blk (show w1.heap[R]? = some (.cells #[.int .i64 0, .int .i64 0] 121 (0, 0)) from HL1.out.heap HR0.out (fun h => by have := HGR.out; omega))
    have HE2 := Lib.hid E2; have HT2 := Lib.hid T2; have HR2 := Lib.hid R2
    have hRw : R < w1.heap.size := by have := HL1.out.size; have := lt_of_block HR0.out; omega
    try rw [hW2]
    obtain ⟨T, hT⟩ : ∃ T, w1.heap.size = T := ⟨_, rfl⟩
    rw [hT] at HT2 hRw
    try rw [hT]
    clear r0 r1 rf0 rf1 E2 T2 R2 hW2
    go_loopw [26] (fun i wr' => i = .int .i64 0 ∧ wr' = W2) (fun _ _ => 0)
    case atStart => exact ⟨rfl, rfl⟩
    case round =>
      obtain ⟨rfl, rfl⟩ := hrel
      obtain ⟨t0, t1, -, -⟩ := blk2 HT2.out
      obtain ⟨r0, r1, rf0, rf1⟩ := blk2 HR2.out
      have zz := blk2_set (c := .int .i64 z.1) (d := .int .i64 z.2) HR2.out
      have hlf := lv_set2 wr R 0 1 (.int .i64 z.1) (.int .i64 z.2)
      have HZZ := Lib.hid zz; have HLF := Lib.hid hlf
      obtain ⟨v0, v1, -, -⟩ := blk2 zz
      clear zz hlf
      go_wp2
      refine bodyPost_ret (v := .agg #[.int .i64 z.1, .int .i64 z.2]) (by simp [results, Try.results153, go_sem, v0, v1]) rfl ⟨rfl, ⟨_, ((HQ1.out.ext HE2.out).lv HLF.out (fun h => by have := HGR.out; have h2 : g = R := h; omega) (fun b hb h => by have := HGR.out; have h2 : b = R := h; simp only [Value.ownBlock, Option.some.injEq] at hb; omega)), HP.out, HOK.out⟩, ?_⟩
      refine (((HE0.out.lv (D := fun _ => False)).trans HL1.out (E := fun k => k = g ∨ k = o) (fun _ _ h => h.elim) (fun _ _ h => h)).trans (HE2.out.lv (D := fun _ => False)) (E := fun k => k = g ∨ k = o) (fun _ _ h => h) (fun _ _ h => h.elim)).trans HLF.out (fun _ _ h => h) (fun b hb h => by have h2 : b = R := h; omega)
end Go.Proofs.Ytccibfldadflkaa

/- The cache that knows what comes: its state, foreseeingOf, hold, count. No statement is proved here. -/
namespace Go.Proofs.Ytccibfldadflkaa
open Go.RowKit Go.Maps

def heldF (H : List Int) : Int → Option Value := fun c => if c ∈ H then some (.bool true) else none
theorem undMapB : Try.prog.underlying 63 = some (.map 3 4) := by kernel_rfl
/-- The cells held, and the accesses under way. -/
def FoS (B mb g : Nat) (w : World) (N : Nat) (H : List Int) (p : Option Addr) (c : Nat) (hs : List Us) : Prop :=
  IMc w mb N (heldF H) H.length ∧ QuV B g w p hs.length c hs ∧ hpU hs hs.length ∧ mb ≠ g ∧ (Value.slice p hs.length c).ownBlock ≠ some mb ∧ H.Nodup ∧ ∀ x ∈ H, i64 x
theorem FoS.lv {B mb g N c : Nat} {H : List Int} {p : Option Addr} {hs : List Us} {w w' : World} {D : Nat → Prop} (h : FoS B mb g w N H p c hs) (hv : Lv D w w') (h0 : ¬ D mb) (h1 : ¬ D g) (h2 : ∀ b, (Value.slice p hs.length c).ownBlock = some b → ¬ D b) : FoS B mb g w' N H p c hs :=
  ⟨h.1.lv hv h0, h.2.1.lv hv h1 h2, h.2.2⟩
theorem FoS.ext {B mb g N c : Nat} {H : List Int} {p : Option Addr} {hs : List Us} {w w' : World} (h : FoS B mb g w N H p c hs) (hE : Ext w w') : FoS B mb g w' N H p c hs :=
  h.lv (hE.lv (D := fun _ => False)) (fun h => h) (fun h => h) (fun _ _ h => h)
theorem FoS.lt {B mb g N c : Nat} {H : List Int} {p : Option Addr} {hs : List Us} {w : World} (h : FoS B mb g w N H p c hs) : mb < w.heap.size ∧ g < w.heap.size := ⟨h.1.lt, lt_of_block h.2.1.1⟩
theorem upd_held (H : List Int) (c : Int) : updF (heldF H) c (.bool true) = heldF (if c ∈ H then H else H ++ [c]) := by
  funext x
  unfold updF heldF
  by_cases hc : c ∈ H
  · rw [if_pos hc]
    by_cases e : x = c
    · subst e; rw [if_pos rfl, if_pos hc]
    · rw [if_neg e]
  · rw [if_neg hc]
    by_cases e : x = c
    · subst e; rw [if_pos rfl, if_pos (by simp)]
    · rw [if_neg e]
      by_cases hx : x ∈ H
      · rw [if_pos hx, if_pos (by simp [hx])]
      · rw [if_neg hx, if_neg (by simp [hx, e])]
theorem held_get (H : List Int) (c : Int) : (heldF H c).getD (.bool false) = .bool (decide (c ∈ H)) ∧ (heldF H c).isSome = decide (c ∈ H) := by
  unfold heldF
  by_cases h : c ∈ H
  · rw [if_pos h]; simp [h]
  · rw [if_neg h]; simp [h]

set_option linter.unusedVariables false in
set_option maxRecDepth 100000 in
set_option maxHeartbeats 2000000 in
theorem holdF_any (B mb g N c : Nat) (H : List Int) (p : Option Addr) (hs : List Us) (x nx : Int) (w : World) (h : FoS B mb g w N H p c hs) (hx : i64 x) (hN : N ≤ 1000) (hl : hs.length < 1000) (hB : B ≤ w.heap.size) :
    Calls Try.prog 152 #[.agg #[.map (some mb), .pointer (some ⟨g, 0, none⟩)], .agg #[.int .i64 x, .int .i64 nx]] w fun e w' => e = .returned (.bool (decide (x ∈ H))) ∧
      ∃ o c' hs', FoS B mb g w' (N + 1) (if x ∈ H then H else H ++ [x]) (some ⟨o, 0, none⟩) c' hs' ∧ hs'.Perm ((x, nx) :: hs) ∧ Lv (fun k => k = mb ∨ k = g ∨ (Value.slice p hs.length c).ownBlock = some k) w w' ∧ ((Value.slice p hs.length c).ownBlock = some o ∨ w.heap.size ≤ o) := by
  obtain ⟨hmap, hq, hok, hmg, hmo, hnd, hi⟩ := id h
  obtain ⟨g0, hg0⟩ : ∃ g, w.heap.size = g := ⟨_, rfl⟩
  obtain ⟨W0, hW0⟩ : ∃ W0, (w.alloc (.cells #[.map (some mb), .pointer (some ⟨g, 0, none⟩)] 66)).alloc (.cells #[.int .i64 x, .int .i64 nx] 121) = W0 := ⟨_, rfl⟩
  have E0 : Ext w W0 := by rw [← hW0]; exact ((Ext.refl w).alloc _).alloc _
  have B0 : W0.heap[g0]? = some (.cells #[.map (some mb), .pointer (some ⟨g, 0, none⟩)] 66 (0, 0)) := by rw [← hW0]; exact blk_old (blk_at hg0.symm)
  have B1 : W0.heap[g0 + 1]? = some (.cells #[.int .i64 x, .int .i64 nx] 121 (0, 0)) := by rw [← hW0]; exact blk_at (by simp [hg0])
  have hF0 := h.ext E0
  have hmap0 := hF0.1
  have hlk := hmap0.imp.look (T := 63) undMapB (zeroB _) (wfI hx.1 hx.2)
  rw [(held_get H x).1] at hlk
  obtain ⟨r0, r1, -, -⟩ := blk2 B0
  obtain ⟨u0, u1, -, -⟩ := blk2 B1
  have hmbl : mb < g0 := by rw [← hg0]; exact hmap.lt
  have hgl : g < g0 := by rw [← hg0]; exact lt_of_block hq.1
  have HM0 := Lib.hid hmap0; have HQ0 := Lib.hid hF0.2.1; have HB0 := Lib.hid B0; have HB1 := Lib.hid B1; have HE0 := Lib.hid E0
  have HOK := Lib.hid hok; have HND := Lib.hid hnd; have HI := Lib.hid hi; have HMO := Lib.hid hmo; have HG0 := Lib.hid hg0
  have HOB : Hid (∀ b, (Value.slice p hs.length c).ownBlock = some b → b < g0) := Lib.hid (fun b hb => by rw [← hg0]; exact (World.ownsRow.lt hq.2.1 b hb).2)
  obtain ⟨H2, hH2⟩ : ∃ l, (if x ∈ H then H else H ++ [x]) = l := ⟨_, rfl⟩
  have HH2 := Lib.hid hH2
  have HH : Hid (IMc W0 mb N (heldF H) H.length → ∀ X, IMc X mb (N + 1) (updF (heldF H) x (.bool true)) (if (heldF H x).isSome = true then H.length else H.length + 1) → IMc X mb (N + 1) (heldF H2) H2.length) := Lib.hid (fun _ X hmX => by
    rw [upd_held, (held_get H x).2, hH2] at hmX
    by_cases h : x ∈ H
    · rw [if_pos (by simpa using h)] at hmX; rw [if_pos h] at hH2; rw [← hH2] at hmX ⊢; exact hmX
    · rw [if_neg (by simpa using h)] at hmX; rw [if_neg h] at hH2; rw [← hH2] at hmX ⊢; rw [List.length_append]; exact hmX)
  rw [hH2]
  obtain ⟨db, hdb⟩ : ∃ d, decide (x ∈ H) = d := ⟨_, rfl⟩
  rw [hdb] at hlk ⊢
  have HDB := Lib.hid hdb
  clear h hmap hq hok hnd hi hF0 hmap0 E0 B0 B1 hdb hmo hH2
  go_enter Try.func152, Try.ntmps152
  go_wp2_with (first | (at_mapUpdate; (try rw [hW0]); (try rw [hg0]); refine upd_Ic _ rfl _ _ _ _ _ rfl undMapB rfl HM0.out (by unfold maxLen; omega) rfl rfl (wfI hx.1 hx.2) ?_; intro X hmX hgX; have hlX := grown_lv hgX; obtain ⟨m0, m1, -, -⟩ := blk2 (hlX.heap HB0.out (fun e => by have e2 : g0 = mb := e; omega)); obtain ⟨v0, v1, -, -⟩ := blk2 (hlX.heap HB1.out (fun e => by have e2 : g0 + 1 = mb := e; omega))) | fail)
  have HMX : Hid (IMc X mb (N + 1) (heldF H2) H2.length) := Lib.hid (HH.out HM0.out X hmX)
  have HLX : Hid (Lv (fun k => k = mb) W0 X) := Lib.hid hlX
  have HQX : Hid (QuV B g X p hs.length c hs) := Lib.hid (HQ0.out.lv hlX (fun e => hmg (Eq.symm e)) (fun b hb e => HMO.out (by rw [hb, show b = mb from e])))
  clear hmX hgX hlX r0 r1 u0 u1
  have hXs : w.heap.size ≤ X.heap.size := by have := HE0.out.size_le; have := HLX.out.size; omega
  refine (queueAdd_any B g hs.length c p hs (x, nx) X HQX.out hl (by omega)).mono ?_
  rintro e w1 ⟨rfl, o, c', hq1, hl1, ho⟩
  have hps := pushU_ok (x, nx) (rfl : hs.length = hs.length) HOK.out
  obtain ⟨hs', hhs⟩ : ∃ l, upU hs.length (hs ++ [(x, nx)]) hs.length = l := ⟨_, rfl⟩
  rw [hhs] at hps hq1
  have hlen : hs'.length = hs.length + 1 := by rw [hps.1.length_eq]; rfl
  have HO2 : Hid ((Value.slice p hs.length c).ownBlock = some o ∨ g0 ≤ o) := Lib.hid (by have := HG0.out; rcases ho with h | h; exact .inl h; exact .inr (by omega))
  have HL2 : Hid (Lv (fun k => k = mb ∨ k = g ∨ (Value.slice p hs.length c).ownBlock = some k) w w1) := Lib.hid (((HE0.out.lv (D := fun _ => False)).trans HLX.out (E := fun k => k = mb) (fun _ _ h => h.elim) (fun _ _ h => h)).trans hl1 (fun _ _ h => .inl h) (fun _ _ h => .inr h))
  have hom : o ≠ mb := fun e => by
    rcases ho with h | h
    · exact HMO.out (by rw [h, e])
    · have := HLX.out.size; have := HM0.out.lt; omega
  have hmp : IMc w1 mb (N + 1) (heldF H2) H2.length := HMX.out.lv hl1 (fun e => by
    rcases e with e | e
    · exact hmg e
    · exact HMO.out e)
  have HFO : Hid (FoS B mb g w1 (N + 1) H2 (some ⟨o, 0, none⟩) c' hs') := Lib.hid ⟨hmp, by rw [hlen]; exact hq1, by rw [hlen]; exact hps.2, hmg, by rw [hlen]; simpa [Value.ownBlock] using hom, by
    rw [← HH2.out]
    by_cases h : x ∈ H
    · rw [if_pos h]; exact HND.out
    · rw [if_neg h]; exact List.nodup_append.2 ⟨HND.out, by simp, fun a ha b hb e => by simp at hb; subst hb; subst e; exact h ha⟩, by
    intro y hy
    rw [← HH2.out] at hy
    by_cases h : x ∈ H
    · rw [if_pos h] at hy; exact HI.out y hy
    · rw [if_neg h] at hy
      rcases List.mem_append.1 hy with hy | hy
      · exact HI.out y hy
      · simp at hy; subst hy; exact hx⟩
  have HPM := Lib.hid hps.1
  clear hq1 hl1 ho hps hmp hom m0 m1 v0 v1
  go_wp2
  go_ret
  exact ⟨rfl, o, c', hs', HFO.out, HPM.out, HL2.out, by rw [HG0.out]; exact HO2.out⟩

theorem countF_any (B mb g N c : Nat) (H : List Int) (p : Option Addr) (hs : List Us) (w : World) (h : FoS B mb g w N H p c hs) :
    Calls Try.prog 150 #[.agg #[.map (some mb), .pointer (some ⟨g, 0, none⟩)]] w fun e w' => e = .returned (.int .i64 (H.length : Int)) ∧ Ext w w' := by
  obtain ⟨W0, hW0⟩ : ∃ W0, w.alloc (.cells #[.map (some mb), .pointer (some ⟨g, 0, none⟩)] 66) = W0 := ⟨_, rfl⟩
  have E0 : Ext w W0 := by rw [← hW0]; exact (Ext.refl w).alloc _
  have B0 : W0.heap[w.heap.size]? = some (.cells #[.map (some mb), .pointer (some ⟨g, 0, none⟩)] 66 (0, 0)) := by rw [← hW0]; exact blk_at rfl
  obtain ⟨r0, r1, -, -⟩ := blk2 B0
  have hlen := (h.ext E0).1.len (T := 63) undMapB 3
  have HE0 := Lib.hid E0
  clear h E0 B0
  go_enter Try.func150, Try.ntmps150
  go_wp2_with (fail)
  try rw [hW0]
  first | (go_ret; exact ⟨rfl, HE0.out⟩) | (go_wp2; go_ret; exact ⟨rfl, HE0.out⟩)

theorem foreseeingOf_any (w : World) : Calls Try.prog 31 #[] w fun e w' => ∃ mb g, e = .returned (.agg #[.map (some mb), .pointer (some ⟨g, 0, none⟩)]) ∧ FoS w.heap.size mb g w' 0 [] none 0 [] ∧ w.heap.size ≤ mb ∧ w.heap.size ≤ g ∧ Ext w w' := by
  have hmm := @run_makeMap Try.prog
  go_enter Try.func31, Try.ntmps31
  go_wp2
  clear hmm
  all_goals
    obtain ⟨k, hk⟩ : ∃ k, w.heap.size = k := ⟨_, rfl⟩
    rw [hk]
    obtain ⟨W1, hW1⟩ : ∃ W, w.alloc (.cells #[.map (some (k + 1)), .pointer (some ⟨k + 1 + 1, 0, none⟩)] 66) = W := ⟨_, rfl⟩
    have hs1 : W1.heap.size = k + 1 := by rw [← hW1, ← hk]; simp
    have E1 : Ext w W1 := by rw [← hW1]; exact (Ext.refl w).alloc _
    have B1 : W1.heap[k]? = some (.cells #[.map (some (k + 1)), .pointer (some ⟨k + 1 + 1, 0, none⟩)] 66 (0, 0)) := by rw [← hW1]; exact blk_at hk.symm
    rw [hW1]
    have HM : IMc (W1.alloc (.map #[] 0)) (k + 1) 0 (fun _ => none) 0 := by have h := IMc.made W1; rwa [hs1] at h
    have E2 : Ext W1 (W1.alloc (.map #[] 0)) := (Ext.refl W1).alloc _
    obtain ⟨W2, hW2⟩ : ∃ W, W1.alloc (.map #[] 0) = W := ⟨_, rfl⟩
    have hs2 : W2.heap.size = k + 1 + 1 := by rw [← hW2, World.size_alloc, hs1]
    rw [hW2] at HM E2 ⊢
    have E3 : Ext W2 (W2.alloc (.cells #[.slice none 0 0, OF] 128)) := (Ext.refl W2).alloc _
    have HQ : QuB (W2.alloc (.cells #[.slice none 0 0, OF] 128)) (k + 1 + 1) none 0 0 := blk_at hs2.symm
    obtain ⟨r0, r1, -, -⟩ := blk2 (E3.blk (E2.blk B1))
    have he : heldF [] = fun _ => none := by funext x; simp [heldF]
    refine bodyPost_ret (v := .agg #[.map (some (k + 1)), .pointer (some ⟨k + 1 + 1, 0, none⟩)]) (by simp [results, Try.results31, go_sem, r0, r1]) rfl ?_
    exact ⟨k + 1, k + 1 + 1, rfl, ⟨by rw [he]; exact HM.lv (E3.lv (D := fun _ => False)) (fun h => h), ⟨HQ, World.ownsRow_nil _ _ _ _, rfl, by simp [Value.ownBlock]⟩, fun i h1 h2 => by simp at h2, by omega, by simp [Value.ownBlock], List.nodup_nil, fun x hx => by cases hx⟩, by omega, by omega, (E1.trans E2).trans E3⟩
end Go.Proofs.Ytccibfldadflkaa
