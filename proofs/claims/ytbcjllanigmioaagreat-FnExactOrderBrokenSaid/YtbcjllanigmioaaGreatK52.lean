/- The texts G47 V11, joined. No statement is proved here. -/
import Derived.Test.YtbcjllanigmioaaGreatK53
import Derived.Test.YtbcjllanigmioaaGreatK41
import Derived.StillTailTactics
import Derived.Test.YtbcjllanigmioaaGreatK45
import Derived.Test.YtbcjllanigmioaaGreatK50
/- The model's OrderBroken and OrderLegal. No statement is proved here. -/
namespace Go.Proofs.YtbcjllanigmioaaGreat
open Go.RowKit Go.Maps

theorem permF_mem {n : Nat} : ∀ {xs s : List Int}, permF n s xs = true → ∀ x ∈ xs, 0 ≤ x ∧ x < n
  | [], _, _, x, hx => by cases hx
  | y :: r, s, h, x, hx => by
    simp only [permF] at h
    split at h
    · rename_i hy
      rcases List.mem_cons.1 hx with rfl | hx
      · exact ⟨hy.1, hy.2.1⟩
      · exact permF_mem h x hx
    · cases h
theorem permB_inv {n : Nat} {xs : List Int} (h : permB n xs = true) : xs.length = n ∧ ∀ x ∈ xs, 0 ≤ x ∧ x < n := by
  simp only [permB, Bool.and_eq_true, decide_eq_true_eq] at h
  exact ⟨h.2, permF_mem h.1⟩
/-- The first dependence that an order breaks. -/
def brO (ars : List Arr) (ps : List Pt) (xs : List Int) : Option D3 := if ordB ars ps xs = true then brk1 (plTo (cntB ars ps) xs (cntB ars ps)) (depsB ars ps) else none
def encO : Option D3 → Value
  | some d => .agg #[.int .i64 (d.1 : Int), .int .i64 (d.2.1 : Int), .int .i64 d.2.2]
  | none => .agg #[.int .i64 0, .int .i64 0, .int .i64 0]
theorem ordB_inv {ars : List Arr} {ps : List Pt} {xs : List Int} (h : ordB ars ps xs = true) : progB ars ps = true ∧ xs.length = cntB ars ps ∧ ∀ x ∈ xs, 0 ≤ x ∧ x < (cntB ars ps : Int) := by
  unfold ordB at h
  simp only [Bool.and_eq_true] at h
  have h2 := permB_inv h.2
  have e : cntB ars ps = (insM ps).length := by unfold cntB; rw [if_pos h.1]
  rw [e]
  exact ⟨h.1, h2⟩
theorem find_none {p : D3 → Bool} {ds : List D3} (h : ∀ d ∈ ds, p d = false) : ds.find? p = none := by
  rw [List.find?_eq_none]; intro d hd; rw [h d hd]; simp
theorem find_at {p : D3 → Bool} {ds : List D3} {k : Nat} {d : D3} (hd : ds[k]? = some d) (h : ∀ e ∈ ds.take k, p e = false) (hp : p d = true) : ds.find? p = some d := by
  have e : ds = ds.take k ++ d :: ds.drop (k + 1) := by
    have hl := (List.getElem?_eq_some_iff.1 hd).1
    have h2 := (List.getElem?_eq_some_iff.1 hd).2
    rw [← h2, ← List.drop_eq_getElem_cons hl, List.take_append_drop]
  rw [e, List.find?_append, find_none h, List.find?_cons_of_pos hp]; rfl
theorem pl_get {M : Nat} {o : List Int} {k i : Nat} (h : i < M) : ∃ a, (plTo M o k)[i]? = some a := get_some (by rw [plTo_len]; exact h)
theorem brkB_is {pl : List Int} {d : D3} {a b : Int} (ha : pl[d.1]? = some a) (hb : pl[d.2.1]? = some b) : brkB pl d = decide (b < a) := by unfold brkB; rw [getD_of ha, getD_of hb]

set_option linter.unusedVariables false in
set_option linter.unusedSimpArgs false in
set_option maxRecDepth 100000 in
set_option maxHeartbeats 1000000 in
theorem l7Places_any (p : Option Addr) (n c : Nat) (xs : List Int) (w : World) (hn : xs.length = n) (hn2 : n ≤ 120) (hx : ∀ x ∈ xs, 0 ≤ x ∧ x < (n : Int)) (hs : IntsAt w (.slice p n c) xs) :
    Calls Tryz.prog 87 #[.slice p n c] w fun e w' => (∃ g c', e = .returned (.slice (some ⟨g, 0, none⟩) n c') ∧ IntsOwn w.heap.size w' (.slice (some ⟨g, 0, none⟩) n c') (plTo n xs n)) ∧ Ext w w' := by
  obtain ⟨hm, hc⟩ := hs.cl
  have HN := Lib.hid hn; have HC := Lib.hid hc; have HX := Lib.hid hx
  have hmk := make_intsZ n (by omega)
  have hMN : decide ((n : Int) < 0) = false := by simp
  clear hn hc hs hx
  go_enter Tryz.func87, Tryz.ntmps87
  go_wp2
  obtain ⟨W2, hW2⟩ : ∃ W2, w.alloc (.cells (Array.replicate n (Value.int .i64 0)) 3) = W2 := ⟨_, rfl⟩
  have E2 : Hid (Ext w W2) := Lib.hid (by rw [← hW2]; exact (Ext.refl w).alloc _)
  have L2 : Hid (IntsOwn w.heap.size W2 (.slice (some ⟨w.heap.size, 0, none⟩) n n) (plTo n xs 0)) := Lib.hid (by rw [← hW2, ← rep_ints]; exact made_own w n (by omega) (List.replicate n 0) (by simp))
  try rw [hW2]
  clear hW2 hmk
  go_loopw [4] (fun iv wr => ∃ k : Nat, k ≤ n ∧ iv = .int .i64 k ∧ IntsOwn w.heap.size wr (.slice (some ⟨w.heap.size, 0, none⟩) n n) (plTo n xs k) ∧ Ext w wr) (fun iv _ => n - (intOf iv).toNat)
  case atStart => exact ⟨0, by omega, rfl, L2.out, E2.out⟩
  case round =>
    obtain ⟨k, hk, rfl, hl, hE⟩ := hrel
    clear L2 E2
    have HL := Lib.hid hl; have HE := Lib.hid hE
    clear hl hE
    by_cases hlt : k < n
    · obtain ⟨x, hxx⟩ := get_some (xs := xs) (k := k) (by rw [HN.out]; exact hlt)
      obtain ⟨x0, x1⟩ := HX.out x (List.mem_of_getElem? hxx)
      obtain ⟨j, rfl⟩ : ∃ j : Nat, x = j := ⟨x.toNat, by omega⟩
      obtain ⟨b, off, rfl, hcell⟩ := HC.out k _ hxx
      have hcl := HE.out.keep hcell
      obtain ⟨a, ha⟩ := pl_get (M := n) (o := xs) (k := k) (show j < n by omega)
      have hca := HL.out.cellI ha
      have hfz := HL.out.frz j
      have hkI : (k : Int) < (n : Int) := by omega
      have HN1 : Hid (plTo n xs (k + 1) = (plTo n xs k).set j (k : Int)) := Lib.hid (plTo_next n hxx)
      have HL2 : Hid (IntsOwn w.heap.size (wr.setCell ⟨w.heap.size, j, none⟩ (.int .i64 (k : Int))) (.slice (some ⟨w.heap.size, 0, none⟩) n n) (plTo n xs (k + 1))) := Lib.hid (by rw [HN1.out]; exact HL.out.store (plTo_len _ _ _) j _)
      have HE2 := Lib.hid (HE.out.setCell (p := ⟨w.heap.size, j, none⟩) (Nat.le_refl _) (.int .i64 (k : Int)))
      clear hxx hcell ha
      go_wp2
      go_roundw
      case rel => exact ⟨k + 1, by omega, by go_num, HL2.out, HE2.out⟩
      case measure => simp [intOf]; omega
    · obtain rfl : k = n := by omega
      go_wp2
      go_ret
      exact ⟨⟨_, _, rfl, HL.out⟩, HE.out⟩

set_option linter.unusedVariables false in
set_option linter.unusedSimpArgs false in
set_option maxRecDepth 100000 in
set_option maxHeartbeats 4000000 in
theorem specOrderBroken_any (v : Value) (ars : List Arr) (ps : List Pt) (p : Option Addr) (n c : Nat) (xs : List Int) (w : World) (hp : PrR w v ars ps) (hn : xs.length = n) (hs : IntsAt w (.slice p n c) xs) :
    Calls Tryz.prog 48 #[v, .slice p n c] w fun e w' => e = .returned (.tuple #[encO (brO ars ps xs), .bool (brO ars ps xs).isSome]) ∧ Ext w w' := by
  obtain ⟨qa, ca, qp, cp, rfl, -, -, -, -⟩ := hp.parts
  obtain ⟨na, hna⟩ : ∃ n, ars.length = n := ⟨_, rfl⟩
  obtain ⟨np, hnp⟩ : ∃ n, ps.length = n := ⟨_, rfl⟩
  rw [hna, hnp] at hp ⊢
  obtain ⟨ob, hob⟩ : ∃ a, ordB ars ps xs = a := ⟨_, rfl⟩
  obtain ⟨bo, hbo⟩ : ∃ a, brO ars ps xs = a := ⟨_, rfl⟩
  rw [hbo]
  have HP := Lib.hid hp; have HN := Lib.hid hn; have HS := Lib.hid hs; have HOB := Lib.hid hob; have HBO := Lib.hid hbo
  clear hp hna hnp hn hs hob hbo
  go_enter Tryz.func48, Tryz.ntmps48
  go_wp2_with (fail)
  obtain ⟨W1, hW1⟩ : ∃ W1, ((w.alloc (.cells #[.slice qa na ca, .slice qp np cp] 32)).alloc (.cells #[.int .i64 0, .int .i64 0, .int .i64 0] 51)) = W1 := ⟨_, rfl⟩
  have E1 : Hid (Ext w W1) := Lib.hid (by rw [← hW1]; exact ((Ext.refl w).alloc _).alloc _)
  have B1 := Lib.hid (show W1.heap[w.heap.size]? = some (.cells #[.slice qa na ca, .slice qp np cp] 32 (0, 0)) by rw [← hW1]; exact blk_old (blk_at rfl))
  have C1 := Lib.hid (show W1.heap[w.heap.size + 1]? = some (.cells #[.int .i64 0, .int .i64 0, .int .i64 0] 51 (0, 0)) by rw [← hW1]; exact blk_at (by simp))
  have HSW1 : Hid (W1.heap.size = w.heap.size + 2) := Lib.hid (by rw [← hW1]; simp)
  try rw [hW1]
  clear hW1
  refine (specOrderValid_any _ ars ps p n c xs _ (HP.out.ext E1.out) HN.out (HS.out.ext E1.out)).mono ?_
  rw [HOB.out]
  rintro e w2 ⟨rfl, hE2⟩
  have E2 := Lib.hid (E1.out.trans hE2); have B2 := Lib.hid (hE2.blk B1.out); have C2 := Lib.hid (hE2.blk C1.out); have HW2 := Lib.hid hE2.size_le
  clear hE2
  cases ob with
  | false =>
    have HR : Hid (bo = none) := Lib.hid (by rw [← HBO.out]; unfold brO; rw [HOB.out]; rfl)
    obtain ⟨c0, c1', c2'⟩ := blk3 C2.out
    have f0 := blk3f C2.out 0; have f1 := blk3f C2.out 1; have f2 := blk3f C2.out 2
    go_wp2
    have hb5 := blk3_set (a' := .int .i64 0) (b' := .int .i64 0) (c' := .int .i64 0) C2.out
    have E6 := (((E2.out.setCell (p := ⟨w.heap.size + 1, 0, none⟩) (Nat.le_succ _) (.int .i64 0)).setCell (p := ⟨w.heap.size + 1, 1, none⟩) (Nat.le_succ _) (.int .i64 0)).setCell (p := ⟨w.heap.size + 1, 2, none⟩) (Nat.le_succ _) (.int .i64 0))
    generalize (((w2.setCell ⟨w.heap.size + 1, 0, none⟩ (.int .i64 0)).setCell ⟨w.heap.size + 1, 1, none⟩ (.int .i64 0)).setCell ⟨w.heap.size + 1, 2, none⟩ (.int .i64 0)) = w6 at *
    obtain ⟨r0, r1, r2⟩ := blk3 hb5
    exact bodyPost_ret (v := .tuple #[.agg #[.int .i64 0, .int .i64 0, .int .i64 0], .bool false]) (by simp [results, Tryz.results48, go_sem, r0, r1, r2]) rfl ⟨by rw [HR.out]; rfl, E6⟩
  | true =>
    obtain ⟨hpb, hlen, hxb⟩ := ordB_inv HOB.out
    obtain ⟨M, hM⟩ : ∃ M, cntB ars ps = M := ⟨_, rfl⟩
    have hM120 : M ≤ 120 := by rw [← hM]; exact cntB_120 ars ps
    rw [hM] at hlen hxb
    obtain rfl : M = n := by have := HN.out; omega
    have hmem : ∀ d ∈ depsB ars ps, d.1 < d.2.1 ∧ d.2.1 < M := fun d hd => by rw [← hM]; exact depsB_mem hd
    have hdl := depsB_len ars ps
    have HBO1 : Hid (bo = brk1 (plTo M xs M) (depsB ars ps)) := Lib.hid (by rw [← HBO.out]; unfold brO; rw [if_pos HOB.out, hM])
    obtain ⟨ds, hds⟩ : ∃ ds, depsB ars ps = ds := ⟨_, rfl⟩
    rw [hds] at hmem hdl HBO1
    obtain ⟨N, hN⟩ : ∃ N, ds.length = N := ⟨_, rfl⟩
    rw [hN] at hdl
    have HPB := Lib.hid hpb; have HDS := Lib.hid hds; have HMEM := Lib.hid hmem; have HNN := Lib.hid hN
    clear hpb hlen hM hmem hds hN
    go_wp2_with (fail)
    refine (l7Places_any p M c xs _ HN.out hM120 hxb (HS.out.ext E2.out)).mono ?_
    rintro e w3 ⟨⟨g, c', rfl, hpl⟩, hE3⟩
    have E3 := Lib.hid (E2.out.trans hE3); have C3 := Lib.hid (hE3.blk C2.out); have HPL := Lib.hid hpl
    obtain ⟨y0, y1, -, -⟩ := blk2 (hE3.blk B2.out)
    clear hE3 hpl hxb
    go_wp2_with (fail)
    refine (l6Deps_any _ ars ps _ (HP.out.ext E3.out) HPB.out).mono ?_
    rintro e w4 ⟨⟨v4, rfl, hd⟩, hE4⟩
    rw [HDS.out] at hd
    obtain ⟨q4, c4, rfl⟩ := hd.form
    rw [HNN.out] at hd ⊢
    have E4 := Lib.hid (E3.out.trans hE4); have C4 := Lib.hid (hE4.blk C3.out); have HP4 := Lib.hid (HPL.out.ext hE4); have HD4 := Lib.hid hd
    clear hE4 hd y0 y1
    obtain ⟨pl, hpl⟩ : ∃ pl, plTo M xs M = pl := ⟨_, rfl⟩
    have HPLL : Hid (pl.length = M) := Lib.hid (by rw [← hpl]; exact plTo_len _ _ _)
    rw [hpl] at HP4 HBO1
    clear hpl HPL
    go_wp2
    go_loopw [8] (fun iv wr => ∃ k : Nat, k ≤ N ∧ iv = .int .i64 k ∧ (∀ d ∈ ds.take k, brkB pl d = false) ∧ Ext w4 wr) (fun iv _ => N - (intOf iv).toNat)
    case atStart => exact ⟨0, by omega, rfl, by simp, Ext.refl w4⟩
    case round =>
      obtain ⟨k, hk, rfl, hno, hE⟩ := hrel
      have HNO := Lib.hid hno; have HE := Lib.hid hE
      clear hno hE
      by_cases hlt : k < N
      · obtain ⟨d, hd⟩ := get_some (xs := ds) (k := k) (by rw [HNN.out]; exact hlt)
        obtain ⟨hij, hjM⟩ := HMEM.out d (List.mem_of_getElem? hd)
        obtain ⟨a, ha⟩ := get_some (xs := pl) (k := d.1) (by rw [HPLL.out]; omega)
        obtain ⟨b, hb⟩ := get_some (xs := pl) (k := d.2.1) (by rw [HPLL.out]; omega)
        have HBK := Lib.hid (brkB_is ha hb)
        obtain ⟨o, rfl, -, hol, d0, d1, d2⟩ := (HD4.out.ext HE.out).elem hd
        have ca := (HP4.out.ext HE.out).cellI ha; have cb := (HP4.out.ext HE.out).cellI hb
        obtain ⟨i, j, kn⟩ := d
        dsimp only at hij hjM d0 d1 d2 ca cb
        have HDD := Lib.hid hd
        have hkI : (k : Int) < (N : Int) := by omega
        have hiI : (i : Int) < (M : Int) := by omega
        have hjI : (j : Int) < (M : Int) := by omega
        clear hd ha hb
        go_wp2_with (fail)
        go_region_held3 (fun W => W.cell? ⟨o, k * 3, none⟩ = some (.int .i64 (i : Int)) ∧ W.cell? ⟨o, k * 3 + 1, none⟩ = some (.int .i64 (j : Int)) ∧ W.cell? ⟨g, i, none⟩ = some (.int .i64 a) ∧ W.cell? ⟨g, j, none⟩ = some (.int .i64 b))
          (first | exact ⟨d0, d1, ca, cb⟩ | fail)
          (fail)
        obtain ⟨wq, hwq⟩ : ∃ wq, wr.drew = wq := ⟨_, rfl⟩
        have EQ : Ext wr wq := by rw [← hwq]; exact (Ext.refl wr).drew
        have HE' := Lib.hid (HE.out.trans EQ)
        have d0' := EQ.keep d0; have d1' := EQ.keep d1; have d2' := EQ.keep d2
        rw [hwq]
        clear hwq EQ d0 d1 d2 ca cb
        by_cases hc : b < a
        · have hcb : decide (b < a) = true := by simpa using hc
          have HR : Hid (bo = some (i, j, kn)) := Lib.hid (by rw [HBO1.out]; exact find_at HDD.out HNO.out (by rw [HBK.out]; exact hcb))
          have C5 := Lib.hid (HE'.out.blk C4.out); have E5 := Lib.hid (E4.out.trans HE'.out)
          obtain ⟨c0, c1', c2'⟩ := blk3 C5.out
          have f0 := blk3f C5.out 0; have f1 := blk3f C5.out 1; have f2 := blk3f C5.out 2
          clear hc
          rw [hcb]
          clear hcb
          go_wp2
          have hb5 := blk3_set (a' := .int .i64 (i : Int)) (b' := .int .i64 (j : Int)) (c' := .int .i64 kn) C5.out
          have E6 := (((E5.out.setCell (p := ⟨w.heap.size + 1, 0, none⟩) (Nat.le_succ _) (.int .i64 (i : Int))).setCell (p := ⟨w.heap.size + 1, 1, none⟩) (Nat.le_succ _) (.int .i64 (j : Int))).setCell (p := ⟨w.heap.size + 1, 2, none⟩) (Nat.le_succ _) (.int .i64 kn))
          generalize (((wq.setCell ⟨w.heap.size + 1, 0, none⟩ (.int .i64 (i : Int))).setCell ⟨w.heap.size + 1, 1, none⟩ (.int .i64 (j : Int))).setCell ⟨w.heap.size + 1, 2, none⟩ (.int .i64 kn)) = w6 at *
          obtain ⟨r0, r1, r2⟩ := blk3 hb5
          exact bodyPost_ret (v := .tuple #[.agg #[.int .i64 (i : Int), .int .i64 (j : Int), .int .i64 kn], .bool true]) (by simp [results, Tryz.results48, go_sem, r0, r1, r2]) rfl ⟨by rw [HR.out]; rfl, E6⟩
        · have hcb : decide (b < a) = false := by simpa using hc
          have HNX : Hid (∀ d ∈ ds.take (k + 1), brkB pl d = false) := Lib.hid (fun d hd => by
            rw [take_next HDD.out, List.mem_append] at hd
            rcases hd with hd | hd
            · exact HNO.out d hd
            · simp only [List.mem_singleton] at hd; rw [hd, HBK.out]; exact hcb)
          clear hc d0' d1' d2'
          rw [hcb]
          clear hcb
          go_wp2
          go_roundw
          case rel => exact ⟨k + 1, by omega, by go_num, HNX.out, HE'.out⟩
          case measure => simp [intOf]; omega
      · obtain rfl : k = N := by omega
        have HR : Hid (bo = none) := Lib.hid (by
          rw [HBO1.out]
          have h := HNO.out
          rw [List.take_of_length_le (by rw [HNN.out]; exact Nat.le_refl _)] at h
          exact find_none h)
        have C5 := Lib.hid (HE.out.blk C4.out); have E5 := Lib.hid (E4.out.trans HE.out)
        obtain ⟨c0, c1', c2'⟩ := blk3 C5.out
        have f0 := blk3f C5.out 0; have f1 := blk3f C5.out 1; have f2 := blk3f C5.out 2
        go_wp2
        have hb5 := blk3_set (a' := .int .i64 0) (b' := .int .i64 0) (c' := .int .i64 0) C5.out
        have E6 := (((E5.out.setCell (p := ⟨w.heap.size + 1, 0, none⟩) (Nat.le_succ _) (.int .i64 0)).setCell (p := ⟨w.heap.size + 1, 1, none⟩) (Nat.le_succ _) (.int .i64 0)).setCell (p := ⟨w.heap.size + 1, 2, none⟩) (Nat.le_succ _) (.int .i64 0))
        generalize (((wr.setCell ⟨w.heap.size + 1, 0, none⟩ (.int .i64 0)).setCell ⟨w.heap.size + 1, 1, none⟩ (.int .i64 0)).setCell ⟨w.heap.size + 1, 2, none⟩ (.int .i64 0)) = w6 at *
        obtain ⟨r0, r1, r2⟩ := blk3 hb5
        exact bodyPost_ret (v := .tuple #[.agg #[.int .i64 0, .int .i64 0, .int .i64 0], .bool false]) (by simp [results, Tryz.results48, go_sem, r0, r1, r2]) rfl ⟨by rw [HR.out]; rfl, E6⟩

def olB (ars : List Arr) (ps : List Pt) (xs : List Int) : Bool := ordB ars ps xs && !(brO ars ps xs).isSome
set_option linter.unusedVariables false in
set_option linter.unusedSimpArgs false in
set_option maxRecDepth 100000 in
set_option maxHeartbeats 2000000 in
theorem specOrderLegal_any (v : Value) (ars : List Arr) (ps : List Pt) (p : Option Addr) (n c : Nat) (xs : List Int) (w : World) (hp : PrR w v ars ps) (hn : xs.length = n) (hs : IntsAt w (.slice p n c) xs) :
    Calls Tryz.prog 35 #[v, .slice p n c] w fun e w' => e = .returned (.bool (olB ars ps xs)) ∧ Ext w w' := by
  obtain ⟨qa, ca, qp, cp, rfl, -, -, -, -⟩ := hp.parts
  obtain ⟨na, hna⟩ : ∃ n, ars.length = n := ⟨_, rfl⟩
  obtain ⟨np, hnp⟩ : ∃ n, ps.length = n := ⟨_, rfl⟩
  rw [hna, hnp] at hp ⊢
  obtain ⟨ob, hob⟩ : ∃ a, ordB ars ps xs = a := ⟨_, rfl⟩
  obtain ⟨bo, hbo⟩ : ∃ a, brO ars ps xs = a := ⟨_, rfl⟩
  obtain ⟨ans, hans⟩ : ∃ a, olB ars ps xs = a := ⟨_, rfl⟩
  rw [hans]
  have HP := Lib.hid hp; have HN := Lib.hid hn; have HS := Lib.hid hs; have HOB := Lib.hid hob; have HBO := Lib.hid hbo; have HANS := Lib.hid hans
  clear hp hna hnp hn hs hob hbo hans
  go_enter Tryz.func35, Tryz.ntmps35
  go_wp2_with (fail)
  obtain ⟨W1, hW1⟩ : ∃ W1, w.alloc (.cells #[.slice qa na ca, .slice qp np cp] 32) = W1 := ⟨_, rfl⟩
  have E1 : Hid (Ext w W1) := Lib.hid (by rw [← hW1]; exact (Ext.refl w).alloc _)
  have B1 := Lib.hid (show W1.heap[w.heap.size]? = some (.cells #[.slice qa na ca, .slice qp np cp] 32 (0, 0)) by rw [← hW1]; exact blk_at rfl)
  try rw [hW1]
  clear hW1
  refine (specOrderBroken_any _ ars ps p n c xs _ (HP.out.ext E1.out) HN.out (HS.out.ext E1.out)).mono ?_
  rw [HBO.out]
  rintro e w2 ⟨rfl, hE2⟩
  have E2 := Lib.hid (E1.out.trans hE2)
  obtain ⟨y0, y1, -, -⟩ := blk2 (hE2.blk B1.out)
  have hgl : w.heap.size < w2.heap.size := lt_of_block (hE2.blk B1.out)
  clear hE2
  cases bo with
  | none =>
    dsimp only [encO, Option.isSome]
    go_wp2_with (fail)
    obtain ⟨W4, hW4⟩ : ∃ W4, w2.alloc (.cells #[.int .i64 0, .int .i64 0, .int .i64 0] 51) = W4 := ⟨_, rfl⟩
    have E4 : Hid (Ext w W4) := Lib.hid (by rw [← hW4]; exact E2.out.alloc _)
    try rw [hW4]
    clear hW4 y0 y1
    refine (specOrderValid_any _ ars ps p n c xs _ (HP.out.ext E4.out) HN.out (HS.out.ext E4.out)).mono ?_
    rw [HOB.out]
    rintro e w5 ⟨rfl, hE5⟩
    have E5 := Lib.hid (E4.out.trans hE5)
    clear hE5
    cases ob with
    | false =>
      go_wp2
      go_ret
      exact ⟨ret_bool (by have h := HANS.out; unfold olB at h; rw [HOB.out] at h; exact h), E5.out⟩
    | true =>
      go_wp2
      go_ret
      exact ⟨ret_bool (by have h := HANS.out; unfold olB at h; rw [HOB.out, HBO.out] at h; exact h), E5.out⟩
  | some d =>
    dsimp only [encO, Option.isSome]
    go_wp2_with (fail)
    obtain ⟨W4, hW4⟩ : ∃ W4, w2.alloc (.cells #[.int .i64 (d.1 : Int), .int .i64 (d.2.1 : Int), .int .i64 d.2.2] 51) = W4 := ⟨_, rfl⟩
    have E4 : Hid (Ext w W4) := Lib.hid (by rw [← hW4]; exact E2.out.alloc _)
    try rw [hW4]
    clear hW4 y0 y1
    refine (specOrderValid_any _ ars ps p n c xs _ (HP.out.ext E4.out) HN.out (HS.out.ext E4.out)).mono ?_
    rw [HOB.out]
    rintro e w5 ⟨rfl, hE5⟩
    have E5 := Lib.hid (E4.out.trans hE5)
    clear hE5
    cases ob with
    | false =>
      go_wp2
      go_ret
      exact ⟨ret_bool (by have h := HANS.out; unfold olB at h; rw [HOB.out] at h; exact h), E5.out⟩
    | true =>
      go_wp2
      go_ret
      exact ⟨ret_bool (by have h := HANS.out; unfold olB at h; rw [HOB.out, HBO.out] at h; exact h), E5.out⟩
end Go.Proofs.YtbcjllanigmioaaGreat

/- The dependences that an order breaks, as the program's iterator yields them. No statement is proved here. -/
namespace Go.Proofs.YtbcjllanigmioaaGreat
open Go.RowKit
attribute [local go_sem] Oper.semAt_some

theorem fil_next {p : D3 → Bool} {ds : List D3} {k : Nat} {d : D3} (h : ds[k]? = some d) : (ds.take (k + 1)).filter p = (ds.take k).filter p ++ (if p d = true then [d] else []) := by
  rw [take_next h, List.filter_append]
  cases hp : p d <;> simp [hp]
theorem fil_pre {p : D3 → Bool} {ds : List D3} {k : Nat} {d : D3} (h : ds[k]? = some d) (hp : p d = true) : ((ds.take k).filter p ++ [d]) <+: ds.filter p := by
  have e := fil_next (p := p) h
  rw [if_pos hp] at e
  rw [← e]
  exact ⟨(ds.drop (k + 1)).filter p, by rw [← List.filter_append, List.take_append_drop]⟩

/-- What the iterator reads. -/
def BrkF (B B' M N c cp : Nat) (q : Option Addr) (GB PX L : Nat) (ds : List D3) (pl : List Int) (w : World) : Prop :=
  DepsOwn B w (.slice q N c) ds ∧ IntsOwn B' w (.slice (some ⟨L, 0, none⟩) M cp) pl ∧ w.heap[GB]? = some (.cells #[.int .i64 (M : Int), .slice q N c] 120 (0, 0)) ∧ w.heap[PX]? = some (.cells #[.slice (some ⟨L, 0, none⟩) M cp] 27 (0, 0))
def BrkZ (N c : Nat) (q : Option Addr) (GB PX L : Nat) (Z : Nat → Prop) : Prop := (∀ b, (Value.slice q N c).ownBlock = some b → Z b) ∧ Z L ∧ Z GB ∧ Z PX
theorem BrkF.lv {B B' M N c cp : Nat} {q : Option Addr} {GB PX L : Nat} {ds : List D3} {pl : List Int} {Z D : Nat → Prop} {w w' : World} (h : BrkF B B' M N c cp q GB PX L ds pl w) (hz : BrkZ N c q GB PX L Z) (hv : Lv D w w') (hD : ∀ b, Z b → ¬ D b) : BrkF B B' M N c cp q GB PX L ds pl w' :=
  ⟨h.1.lv hv (fun b hb => hD b (hz.1 b hb)), row_lv h.2.1 hv (fun b hb => by simp only [Value.ownBlock, Option.some.injEq] at hb; subst hb; exact hD _ hz.2.1), hv.heap h.2.2.1 (hD _ hz.2.2.1), hv.heap h.2.2.2 (hD _ hz.2.2.2)⟩
set_option linter.unusedVariables false in
set_option linter.unusedSimpArgs false in
set_option maxRecDepth 100000 in
set_option maxHeartbeats 4000000 in
theorem broken_seqB (base m m' GB PX L B B' M N c cp : Nat) (q : Option Addr) (ds : List D3) (pl : List Int) (Z : Nat → Prop) (w : World) (hN : ds.length = N) (hN2 : N ≤ 14400) (hM120 : M ≤ 120) (hmem : ∀ d ∈ ds, d.1 < d.2.1 ∧ d.2.1 < M) (hpl : pl.length = M)
    (hF : BrkF B B' M N c cp q GB PX L ds pl w) (hbz : BrkZ N c q GB PX L Z) (hZ : ∀ b, Z b → b < w.heap.size) (hbw : base ≤ w.heap.size) :
    SeqB base Fence.wide m m' Tryz.prog 154 #[.pointer (some ⟨GB, 0, none⟩), .pointer (some ⟨PX, 0, none⟩)] encD (fun _ _ => True) (fun _ => True) (fun _ => False) Z (ds.filter (brkB pl)) w := by
  intro l J Jx own W hvW hJ hJx hown hY h0
  have hFW := hF.lv hbz hvW (fun _ _ h => h)
  have hbW : base ≤ W.heap.size := Nat.le_trans hbw hvW.size
  obtain ⟨g0, g1, -, -⟩ := blk2 hFW.2.2.1
  have HF := Lib.hid hFW; have HBZ := Lib.hid hbz; have HN := Lib.hid hN; have HMEM := Lib.hid hmem; have HPLL := Lib.hid hpl
  have HOWN := Lib.hid hown; have HY := Lib.hid hY; have HJ := Lib.hid hJ; have HJX := Lib.hid hJx; have H0 := Lib.hid h0; have HBW := Lib.hid hbW
  have HZW : Hid (∀ b, Z b → b < W.heap.size) := Lib.hid (fun b h => Nat.lt_of_lt_of_le (hZ b h) hvW.size)
  clear hF hFW hbz hN hmem hpl hvW hown hY hJ hJx h0 hbw hbW hZ
  have hdd : ∀ k : Nat, (Fence.wide.depth.isSome = true → 1 ≤ k) := fun k h => by cases h
  show CallsIn Fence.wide m Tryz.prog 154 #[.func (.yield l) #[] #[], .pointer (some ⟨GB, 0, none⟩), .pointer (some ⟨PX, 0, none⟩)] W _
  refine callsIn_of_wp Tryz.func154 rfl trivial ?_ rfl
  simp only [Tryz.ntmps154, List.size_toArray, List.length_cons, List.length_nil, Nat.reduceAdd, Nat.reduceSub, Array.replicate_succ, Array.replicate_zero, List.push_toArray, List.append_toArray, List.nil_append, List.cons_append]
  gi_wp2_with (fail)
  clear g0 g1
  gi_loopw [9] (fun iv wr => ∃ (k : Nat) (own1 : List Nat), k ≤ N ∧ iv = .int .i64 k ∧ J ((ds.take k).filter (brkB pl)) own1 wr ∧ Grew own own1 W wr) (fun iv _ => N - (intOf iv).toNat)
  case atStart => exact ⟨0, own, by omega, rfl, by simpa using H0.out, Grew.refl own W (fun b hb => (HOWN.out b hb).1)⟩
  case round =>
    obtain ⟨k, own1, hk, rfl, hj, hg⟩ := hrel
    by_cases hlt : k < N
    · obtain ⟨d, hd⟩ := get_some (xs := ds) (k := k) (by rw [HN.out]; exact hlt)
      obtain ⟨hij, hjM⟩ := HMEM.out d (List.mem_of_getElem? hd)
      obtain ⟨a, ha⟩ := get_some (xs := pl) (k := d.1) (by rw [HPLL.out]; omega)
      obtain ⟨b, hb⟩ := get_some (xs := pl) (k := d.2.1) (by rw [HPLL.out]; omega)
      have HBK := Lib.hid (brkB_is ha hb)
      have hFr := HF.out.lv HBZ.out hg.1 (fun b hz h => (HOWN.out b h).2 hz)
      obtain ⟨o, rfl, -, hol, d0, d1, d2⟩ := hFr.1.elem hd
      have hlb : ∀ b ∈ own1, b < wr.heap.size := fun b hb => (hg.2 b hb).2
      have hZ1 : ∀ b, Z b → b ∉ own1 := fun b h1 h2 => by
        rcases (hg.2 b h2).1 with h | h
        · exact (HOWN.out b h).2 h1
        · have := HZW.out b h1; omega
      have HD9 := Lib.hid hd
      obtain ⟨i, j, kn⟩ := d
      dsimp only at hij hjM d0 d1 d2 ha hb
      have hkI : (k : Int) < (N : Int) := by omega
      have hiI : (i : Int) < (M : Int) := by omega
      have hjI : (j : Int) < (M : Int) := by omega
      have HA := Lib.hid ha; have HB := Lib.hid hb; have HFR := Lib.hid hFr; have HLB := Lib.hid hlb; have HZ1 := Lib.hid hZ1; have HJ1 := Lib.hid hj; have HG1 := Lib.hid hg
      clear hd ha hb hFr hlb hZ1 hj hg
      gi_wp2_with (fail)
      obtain ⟨wx, hwx⟩ : ∃ wx, wr.alloc (.cells #[.int .i64 (i : Int), .int .i64 (j : Int), .int .i64 kn] 51) = wx := ⟨_, rfl⟩
      have hvx : Lv (fun _ => False) wr wx := by rw [← hwx]; exact Lv.alloc _ wr _
      have hsx : wx.heap.size = wr.heap.size + 1 := by rw [← hwx]; simp
      have BX : wx.heap[wr.heap.size]? = some (.cells #[.int .i64 (i : Int), .int .i64 (j : Int), .int .i64 kn] 51 (0, 0)) := by rw [← hwx]; exact blk_at rfl
      have hJx2 := HJ.out _ _ _ _ HJ1.out (hvx.mono (fun _ _ h => h.elim))
      have hFx := HFR.out.lv HBZ.out hvx (fun _ _ h => h)
      have ca := hFx.2.1.cellI HA.out; have cb := hFx.2.1.cellI HB.out
      obtain ⟨e0, e1, e2⟩ := blk3 BX
      have x0 := (blk1 hFx.2.2.2).1
      obtain ⟨wd, hwd⟩ : ∃ wd, wx.drew = wd := ⟨_, rfl⟩
      have hvd : Lv (fun _ => False) wx wd := by rw [← hwd]; exact Lv.drew0 _ wx
      have hJd := HJ.out _ _ _ _ hJx2 (hvd.mono (fun _ _ h => h.elim))
      have hgd : Grew own1 own1 wr wd := ⟨(hvx.trans hvd (fun _ _ h => h) (fun _ _ h => h)).mono (fun _ _ h => h.elim), fun b hb => ⟨.inl hb, by have := HLB.out b hb; have := hvd.size; omega⟩⟩
      have hsd := hvd.size
      have HJD := Lib.hid hJd; have HGD := Lib.hid hgd; have HWD := Lib.hid hwd; have HFX := Lib.hid hFx; have HBX := Lib.hid BX; have HVD := Lib.hid hvd
      rw [hwx]
      clear hwx BX hJx2 hFx hJd hgd hwd hvx hsx hvd hsd d0 d1 d2
      by_cases hc : b < a
      · have hcb : decide (b < a) = true := by simpa using hc
        have HPB : Hid (brkB pl (i, j, kn) = true) := Lib.hid (by rw [HBK.out]; exact hcb)
        have HNX : Hid ((ds.take (k + 1)).filter (brkB pl) = (ds.take k).filter (brkB pl) ++ [(i, j, kn)]) := Lib.hid (by rw [fil_next HD9.out, if_pos HPB.out])
        have hpre := fil_pre HD9.out HPB.out
        obtain ⟨fn, tmps, assign, body, hy, hR⟩ := HY.out ((ds.take k).filter (brkB pl)) (i, j, kn) own1 wd HJD.out hpre trivial (fun b hb => ⟨(HGD.out.2 b hb).2, fun h => HZ1.out b h hb⟩)
        dsimp only [encD] at hy
        have HR9 := Lib.hid hR; have HPRE := Lib.hid hpre
        have hgx : wr.heap.size ∉ own1 := fun h => by have := HLB.out _ h; omega
        have HGX := Lib.hid hgx
        have hS2 : ∀ own3 V2, Grew own1 own3 wd V2 → (V2.cell? ⟨PX, 0, none⟩ = some (.slice (some ⟨L, 0, none⟩) M cp) ∧ V2.cell? ⟨wr.heap.size, 1, none⟩ = some (.int .i64 (j : Int)) ∧ V2.cell? ⟨wr.heap.size, 0, none⟩ = some (.int .i64 (i : Int)) ∧ V2.cell? ⟨wr.heap.size, 2, none⟩ = some (.int .i64 kn) ∧ V2.cell? ⟨L, j, none⟩ = some (.int .i64 b) ∧ V2.cell? ⟨L, i, none⟩ = some (.int .i64 a)) := fun own3 V2 hg3 => by
          have hv : Lv (fun k => k ∈ own1) wx V2 := HVD.out.trans hg3.1 (fun _ _ h => h.elim) (fun _ _ h => h)
          have hF2 := HFX.out.lv HBZ.out hv (fun b hz h => HZ1.out b hz h)
          obtain ⟨t0, t1, t2⟩ := blk3 (hv.heap HBX.out HGX.out)
          exact ⟨(blk1 hF2.2.2.2).1, t1, t0, t2, hF2.2.1.cellI HB.out, hF2.2.1.cellI HA.out⟩
        have HS2 := Lib.hid hS2
        clear hc hR hpre hgx hS2
        refine wpIn_region_IS (n := m) (fun W => W.cell? ⟨PX, 0, none⟩ = some (.slice (some ⟨L, 0, none⟩) M cp) ∧ W.cell? ⟨wr.heap.size, 1, none⟩ = some (.int .i64 (j : Int)) ∧ W.cell? ⟨wr.heap.size, 0, none⟩ = some (.int .i64 (i : Int)) ∧ W.cell? ⟨wr.heap.size, 2, none⟩ = some (.int .i64 kn) ∧ W.cell? ⟨L, j, none⟩ = some (.int .i64 b) ∧ W.cell? ⟨L, i, none⟩ = some (.int .i64 a)) (by kernel_rfl) ⟨x0, e1, e0, e2, cb, ca⟩ (fun hHeld => ?_)
        rw [HWD.out] at hHeld ⊢
        refine wpAnyIS_takeD (some 13) (i := 0) (v := ?vb0) rfl rfl rfl (by kernel_rfl) (by kernel_rfl) (by kernel_rfl) (fun _ _ _ h => h) (Or.inl ⟨by rfl, ?hyb0⟩) (fun _ => rfl) (by assumption) ?rb0
        case hyb0 => intro w hSw; (try dsimp only at hSw); go_simp; first | done | with_reducible rfl
        case' rb0 => try simp only [Act.put, List.setIfInBounds_toArray, List.set_cons_zero, List.set_cons_succ]
        refine wpAnyIS_takeD (some 14) (i := 1) (v := ?vb1) rfl rfl rfl (by kernel_rfl) (by kernel_rfl) (by kernel_rfl) (fun _ _ _ h => h) (Or.inl ⟨by rfl, ?hyb1⟩) (fun _ => rfl) (by assumption) ?rb1
        case hyb1 => intro w hSw; (try dsimp only at hSw); go_simp; first | done | with_reducible rfl
        case' rb1 => try simp only [Act.put, List.setIfInBounds_toArray, List.set_cons_zero, List.set_cons_succ]
        refine wpAnyIS_takeD (some 15) (i := 2) (v := ?vb2) rfl rfl rfl (by kernel_rfl) (by kernel_rfl) (by kernel_rfl) (fun _ _ _ h => h) (Or.inl ⟨by rfl, ?hyb2⟩) (fun _ => rfl) (by assumption) ?rb2
        case hyb2 => intro w hSw; (try dsimp only at hSw); go_simp; first | done | with_reducible rfl
        case' rb2 => try simp only [Act.put, List.setIfInBounds_toArray, List.set_cons_zero, List.set_cons_succ]
        refine wpAnyIS_takeD (some 16) (i := 3) (v := ?vb3) rfl rfl rfl (by kernel_rfl) (by kernel_rfl) (by kernel_rfl) (fun _ _ _ h => h) (Or.inl ⟨by rfl, ?hyb3⟩) (fun _ => rfl) (by assumption) ?rb3
        case hyb3 => intro w hSw; (try dsimp only at hSw); go_simp; first | done | with_reducible rfl
        case' rb3 => try simp only [Act.put, List.setIfInBounds_toArray, List.set_cons_zero, List.set_cons_succ]
        refine wpAnyIS_takeD (some 17) (i := 4) (v := ?vb4) rfl rfl rfl (by kernel_rfl) (by kernel_rfl) (by kernel_rfl) (fun _ _ _ h => h) (Or.inl ⟨by rfl, ?hyb4⟩) (fun _ => rfl) (by assumption) ?rb4
        case hyb4 => intro w hSw; (try dsimp only at hSw); go_simp; first | done | with_reducible rfl
        case' rb4 => try simp only [Act.put, List.setIfInBounds_toArray, List.set_cons_zero, List.set_cons_succ]
        refine wpAnyIS_takeD (some 18) (i := 5) (v := ?vb5) rfl rfl rfl (by kernel_rfl) (by kernel_rfl) (by kernel_rfl) (fun _ _ _ h => h) (Or.inl ⟨by rfl, ?hyb5⟩) (fun _ => rfl) (by assumption) ?rb5
        case hyb5 => intro w hSw; (try dsimp only at hSw); go_simp; first | done | with_reducible rfl
        case' rb5 => try simp only [Act.put, List.setIfInBounds_toArray, List.set_cons_zero, List.set_cons_succ]
        refine wpAnyIS_takeD (some 19) (i := 6) (v := ?vb6) rfl rfl rfl (by kernel_rfl) (by kernel_rfl) (by kernel_rfl) (fun _ _ _ h => h) (Or.inl ⟨by rfl, ?hyb6⟩) (fun _ => rfl) (by assumption) ?rb6
        case hyb6 => intro w hSw; (try dsimp only at hSw); go_simp; first | done | with_reducible rfl
        case' rb6 => try simp only [Act.put, List.setIfInBounds_toArray, List.set_cons_zero, List.set_cons_succ]
        refine wpAnyIS_takeD (some 20) (i := 7) (v := ?vb7) rfl rfl rfl (by kernel_rfl) (by kernel_rfl) (by kernel_rfl) (fun _ _ _ h => h) (Or.inl ⟨by rfl, ?hyb7⟩) (fun _ => rfl) (by assumption) ?rb7
        case hyb7 => intro w hSw; (try dsimp only at hSw); go_simp; first | done | with_reducible rfl
        case' rb7 => try simp only [Act.put, List.setIfInBounds_toArray, List.set_cons_zero, List.set_cons_succ]
        refine wpAnyIS_takeD (some 21) (i := 8) (v := ?vb8) rfl rfl rfl (by kernel_rfl) (by kernel_rfl) (by kernel_rfl) (fun _ _ _ h => h) (Or.inl ⟨by rfl, ?hyb8⟩) (fun _ => rfl) (by assumption) ?rb8
        case hyb8 => intro w hSw; (try dsimp only at hSw); go_simp; first | done | with_reducible rfl
        case' rb8 => try simp only [Act.put, List.setIfInBounds_toArray, List.set_cons_zero, List.set_cons_succ]
        refine wpAnyIS_takeD (some 22) (i := 9) (v := ?vb9) rfl rfl rfl (by kernel_rfl) (by kernel_rfl) (by kernel_rfl) (fun _ _ _ h => h) (Or.inl ⟨by rfl, ?hyb9⟩) (fun _ => rfl) (by assumption) ?rb9
        case hyb9 => intro w hSw; (try dsimp only at hSw); go_simp; first | done | with_reducible rfl
        case' rb9 => try simp only [Act.put, List.setIfInBounds_toArray, List.set_cons_zero, List.set_cons_succ]
        refine wpAnyIS_takeD (some 23) (i := 10) (v := ?vb10) rfl rfl rfl (by kernel_rfl) (by kernel_rfl) (by kernel_rfl) (fun _ _ _ h => h) (Or.inl ⟨by rfl, ?hyb10⟩) (fun _ => rfl) (by assumption) ?rb10
        case hyb10 => intro w hSw; (try dsimp only at hSw); go_simp; first | done | with_reducible rfl
        case' rb10 => try simp only [Act.put, List.setIfInBounds_toArray, List.set_cons_zero, List.set_cons_succ]
        refine wpAnyIS_takeD (some 24) (i := 11) (v := ?vb11) rfl rfl rfl (by kernel_rfl) (by kernel_rfl) (by kernel_rfl) (fun _ _ _ h => h) (Or.inl ⟨by rfl, ?hyb11⟩) (fun _ => rfl) (by assumption) ?rb11
        case hyb11 => intro w hSw; (try dsimp only at hSw); go_simp; first | done | with_reducible rfl
        case' rb11 => try simp only [Act.put, List.setIfInBounds_toArray, List.set_cons_zero, List.set_cons_succ]
        refine wpAnyIS_takeD (some 25) (i := 12) (v := ?vb12) rfl rfl rfl (by kernel_rfl) (by kernel_rfl) (by kernel_rfl) (fun _ _ _ h => h) (Or.inl ⟨by rfl, ?hyb12⟩) (fun _ => rfl) (by assumption) ?rb12
        case hyb12 => intro w hSw; (try dsimp only at hSw); go_simp; first | done | with_reducible rfl
        case' rb12 => try simp only [Act.put, List.setIfInBounds_toArray, List.set_cons_zero, List.set_cons_succ]
        refine wpAnyIS_takeD (some 26) (i := 13) (v := ?vb13) rfl rfl rfl (by kernel_rfl) (by kernel_rfl) (by kernel_rfl) (fun _ _ _ h => h) (Or.inl ⟨by rfl, ?hyb13⟩) (fun _ => rfl) (by assumption) ?rb13
        case hyb13 => intro w hSw; (try dsimp only at hSw); go_simp; first | done | with_reducible rfl
        case' rb13 => try simp only [Act.put, List.setIfInBounds_toArray, List.set_cons_zero, List.set_cons_succ]
        refine wpAnyIS_one (i := 14) (by kernel_rfl) rfl (fun K9 hK => ?_)
        go_simp
        refine ⟨hdd _, ?_⟩
        refine (round_wide HR9.out).mono ?_
        rintro e V2 ⟨own3, hg3, (⟨rfl, hj3⟩ | ⟨rfl, hj3⟩)⟩
        · have hS3 := HS2.out own3 V2 hg3
          refine hK _ _ hS3 ?_
          clear hK K9
          try simp only [Act.put, List.setIfInBounds_toArray, List.set_cons_zero, List.set_cons_succ]
          refine wpAnyIS_takeD (some 28) (i := 15) (v := ?vby15) rfl rfl rfl (by kernel_rfl) (by kernel_rfl) (by kernel_rfl) (fun _ _ _ h => h) (Or.inl ⟨by rfl, ?hyby15⟩) (fun _ => rfl) (by assumption) ?rby15
          case hyby15 => intro w hSw; (try dsimp only at hSw); go_simp; first | done | with_reducible rfl
          case' rby15 => try simp only [Act.put, List.setIfInBounds_toArray, List.set_cons_zero, List.set_cons_succ]
          refine wpAnyIS_takeD (some 29) (i := 16) (v := ?vby16) rfl rfl rfl (by kernel_rfl) (by kernel_rfl) (by kernel_rfl) (fun _ _ _ h => h) (Or.inl ⟨by rfl, ?hyby16⟩) (fun _ => rfl) (by assumption) ?rby16
          case hyby16 => intro w hSw; (try dsimp only at hSw); go_simp; first | done | with_reducible rfl
          case' rby16 => try simp only [Act.put, List.setIfInBounds_toArray, List.set_cons_zero, List.set_cons_succ]
          refine wpAnyIS_done (by kernel_rfl) ?_ _
          have HG3 := Lib.hid ((HG1.out.trans HGD.out).trans hg3); have HJ3 := Lib.hid hj3
          clear hg3 hj3 hy hS3 hHeld x0 e0 e1 e2 ca cb
          gi_wp2
          go_roundw
          case rel => exact ⟨k + 1, own3, by omega, by go_num, by rw [HNX.out]; exact HJ3.out, HG3.out⟩
          case measure => simp [intOf]; omega
        · have hS3 := HS2.out own3 V2 hg3
          refine hK _ _ hS3 ?_
          clear hK K9
          try simp only [Act.put, List.setIfInBounds_toArray, List.set_cons_zero, List.set_cons_succ]
          refine wpAnyIS_takeD (some 28) (i := 15) (v := ?vbn15) rfl rfl rfl (by kernel_rfl) (by kernel_rfl) (by kernel_rfl) (fun _ _ _ h => h) (Or.inl ⟨by rfl, ?hybn15⟩) (fun _ => rfl) (by assumption) ?rbn15
          case hybn15 => intro w hSw; (try dsimp only at hSw); go_simp; first | done | with_reducible rfl
          case' rbn15 => try simp only [Act.put, List.setIfInBounds_toArray, List.set_cons_zero, List.set_cons_succ]
          refine wpAnyIS_takeD (some 29) (i := 16) (v := ?vbn16) rfl rfl rfl (by kernel_rfl) (by kernel_rfl) (by kernel_rfl) (fun _ _ _ h => h) (Or.inl ⟨by rfl, ?hybn16⟩) (fun _ => rfl) (by assumption) ?rbn16
          case hybn16 => intro w hSw; (try dsimp only at hSw); go_simp; first | done | with_reducible rfl
          case' rbn16 => try simp only [Act.put, List.setIfInBounds_toArray, List.set_cons_zero, List.set_cons_succ]
          refine wpAnyIS_done (by kernel_rfl) ?_ _
          have HG3 := Lib.hid ((HG1.out.trans HGD.out).trans hg3); have HJ3 := Lib.hid hj3
          clear hg3 hj3 hy hS3 hHeld x0 e0 e1 e2 ca cb
          gi_wp2
          first
            | refine bodyPost_ret (results_none rfl _ _ _) rfl ?_
            | refine ⟨_, results_none rfl _ _ _, ?_⟩
          exact ⟨⟨_, rfl⟩, own3, HG3.out.2, HG3.out.1.mono (fun _ _ h => .inl h), trivial, .inr ⟨_, HPRE.out, HJ3.out⟩⟩
      · have hcb : decide (b < a) = false := by simpa using hc
        have HNX : Hid ((ds.take (k + 1)).filter (brkB pl) = (ds.take k).filter (brkB pl)) := Lib.hid (by rw [fil_next HD9.out, if_neg (by rw [HBK.out, hcb]; simp), List.append_nil])
        clear hc
        refine wpIn_region_IS (n := m) (fun W => W.cell? ⟨PX, 0, none⟩ = some (.slice (some ⟨L, 0, none⟩) M cp) ∧ W.cell? ⟨wr.heap.size, 1, none⟩ = some (.int .i64 (j : Int)) ∧ W.cell? ⟨wr.heap.size, 0, none⟩ = some (.int .i64 (i : Int)) ∧ W.cell? ⟨wr.heap.size, 2, none⟩ = some (.int .i64 kn) ∧ W.cell? ⟨L, j, none⟩ = some (.int .i64 b) ∧ W.cell? ⟨L, i, none⟩ = some (.int .i64 a)) (by kernel_rfl) ⟨x0, e1, e0, e2, cb, ca⟩ (fun hHeld => ?_)
        rw [HWD.out] at hHeld ⊢
        refine wpAnyIS_takeD (some 13) (i := 0) (v := ?vc0) rfl rfl rfl (by kernel_rfl) (by kernel_rfl) (by kernel_rfl) (fun _ _ _ h => h) (Or.inl ⟨by rfl, ?hyc0⟩) (fun _ => rfl) (by assumption) ?rc0
        case hyc0 => intro w hSw; (try dsimp only at hSw); go_simp; first | done | with_reducible rfl
        case' rc0 => try simp only [Act.put, List.setIfInBounds_toArray, List.set_cons_zero, List.set_cons_succ]
        refine wpAnyIS_takeD (some 14) (i := 1) (v := ?vc1) rfl rfl rfl (by kernel_rfl) (by kernel_rfl) (by kernel_rfl) (fun _ _ _ h => h) (Or.inl ⟨by rfl, ?hyc1⟩) (fun _ => rfl) (by assumption) ?rc1
        case hyc1 => intro w hSw; (try dsimp only at hSw); go_simp; first | done | with_reducible rfl
        case' rc1 => try simp only [Act.put, List.setIfInBounds_toArray, List.set_cons_zero, List.set_cons_succ]
        refine wpAnyIS_takeD (some 15) (i := 2) (v := ?vc2) rfl rfl rfl (by kernel_rfl) (by kernel_rfl) (by kernel_rfl) (fun _ _ _ h => h) (Or.inl ⟨by rfl, ?hyc2⟩) (fun _ => rfl) (by assumption) ?rc2
        case hyc2 => intro w hSw; (try dsimp only at hSw); go_simp; first | done | with_reducible rfl
        case' rc2 => try simp only [Act.put, List.setIfInBounds_toArray, List.set_cons_zero, List.set_cons_succ]
        refine wpAnyIS_takeD (some 16) (i := 3) (v := ?vc3) rfl rfl rfl (by kernel_rfl) (by kernel_rfl) (by kernel_rfl) (fun _ _ _ h => h) (Or.inl ⟨by rfl, ?hyc3⟩) (fun _ => rfl) (by assumption) ?rc3
        case hyc3 => intro w hSw; (try dsimp only at hSw); go_simp; first | done | with_reducible rfl
        case' rc3 => try simp only [Act.put, List.setIfInBounds_toArray, List.set_cons_zero, List.set_cons_succ]
        refine wpAnyIS_takeD (some 17) (i := 4) (v := ?vc4) rfl rfl rfl (by kernel_rfl) (by kernel_rfl) (by kernel_rfl) (fun _ _ _ h => h) (Or.inl ⟨by rfl, ?hyc4⟩) (fun _ => rfl) (by assumption) ?rc4
        case hyc4 => intro w hSw; (try dsimp only at hSw); go_simp; first | done | with_reducible rfl
        case' rc4 => try simp only [Act.put, List.setIfInBounds_toArray, List.set_cons_zero, List.set_cons_succ]
        refine wpAnyIS_takeD (some 18) (i := 5) (v := ?vc5) rfl rfl rfl (by kernel_rfl) (by kernel_rfl) (by kernel_rfl) (fun _ _ _ h => h) (Or.inl ⟨by rfl, ?hyc5⟩) (fun _ => rfl) (by assumption) ?rc5
        case hyc5 => intro w hSw; (try dsimp only at hSw); go_simp; first | done | with_reducible rfl
        case' rc5 => try simp only [Act.put, List.setIfInBounds_toArray, List.set_cons_zero, List.set_cons_succ]
        refine wpAnyIS_takeD (some 19) (i := 6) (v := ?vc6) rfl rfl rfl (by kernel_rfl) (by kernel_rfl) (by kernel_rfl) (fun _ _ _ h => h) (Or.inl ⟨by rfl, ?hyc6⟩) (fun _ => rfl) (by assumption) ?rc6
        case hyc6 => intro w hSw; (try dsimp only at hSw); go_simp; first | done | with_reducible rfl
        case' rc6 => try simp only [Act.put, List.setIfInBounds_toArray, List.set_cons_zero, List.set_cons_succ]
        refine wpAnyIS_takeD (some 20) (i := 7) (v := ?vc7) rfl rfl rfl (by kernel_rfl) (by kernel_rfl) (by kernel_rfl) (fun _ _ _ h => h) (Or.inl ⟨by rfl, ?hyc7⟩) (fun _ => rfl) (by assumption) ?rc7
        case hyc7 => intro w hSw; (try dsimp only at hSw); go_simp; first | done | with_reducible rfl
        case' rc7 => try simp only [Act.put, List.setIfInBounds_toArray, List.set_cons_zero, List.set_cons_succ]
        refine wpAnyIS_takeD (some 21) (i := 8) (v := ?vc8) rfl rfl rfl (by kernel_rfl) (by kernel_rfl) (by kernel_rfl) (fun _ _ _ h => h) (Or.inl ⟨by rfl, ?hyc8⟩) (fun _ => rfl) (by assumption) ?rc8
        case hyc8 => intro w hSw; (try dsimp only at hSw); go_simp; first | done | with_reducible rfl
        case' rc8 => try simp only [Act.put, List.setIfInBounds_toArray, List.set_cons_zero, List.set_cons_succ]
        refine wpAnyIS_takeD (some 22) (i := 9) (v := ?vc9) rfl rfl rfl (by kernel_rfl) (by kernel_rfl) (by kernel_rfl) (fun _ _ _ h => h) (Or.inl ⟨by rfl, ?hyc9⟩) (fun _ => rfl) (by assumption) ?rc9
        case hyc9 => intro w hSw; (try dsimp only at hSw); go_simp; first | done | with_reducible rfl
        case' rc9 => try simp only [Act.put, List.setIfInBounds_toArray, List.set_cons_zero, List.set_cons_succ]
        refine wpAnyIS_takeD (some 23) (i := 10) (v := ?vc10) rfl rfl rfl (by kernel_rfl) (by kernel_rfl) (by kernel_rfl) (fun _ _ _ h => h) (Or.inl ⟨by rfl, ?hyc10⟩) (fun _ => rfl) (by assumption) ?rc10
        case hyc10 => intro w hSw; (try dsimp only at hSw); go_simp; first | done | with_reducible rfl
        case' rc10 => try simp only [Act.put, List.setIfInBounds_toArray, List.set_cons_zero, List.set_cons_succ]
        refine wpAnyIS_takeD (some 24) (i := 11) (v := ?vc11) rfl rfl rfl (by kernel_rfl) (by kernel_rfl) (by kernel_rfl) (fun _ _ _ h => h) (Or.inl ⟨by rfl, ?hyc11⟩) (fun _ => rfl) (by assumption) ?rc11
        case hyc11 => intro w hSw; (try dsimp only at hSw); go_simp; first | done | with_reducible rfl
        case' rc11 => try simp only [Act.put, List.setIfInBounds_toArray, List.set_cons_zero, List.set_cons_succ]
        refine wpAnyIS_takeD (some 25) (i := 12) (v := undef) rfl rfl rfl (by kernel_rfl) (by kernel_rfl) (by kernel_rfl) (fun _ _ _ h => h) (Or.inr ⟨by kernel_rfl, rfl⟩) (fun _ => rfl) (by assumption) ?_
        try simp only [Act.put, List.setIfInBounds_toArray, List.set_cons_zero, List.set_cons_succ]
        refine wpAnyIS_takeD (some 26) (i := 13) (v := undef) rfl rfl rfl (by kernel_rfl) (by kernel_rfl) (by kernel_rfl) (fun _ _ _ h => h) (Or.inr ⟨by kernel_rfl, rfl⟩) (fun _ => rfl) (by assumption) ?_
        try simp only [Act.put, List.setIfInBounds_toArray, List.set_cons_zero, List.set_cons_succ]
        refine wpAnyIS_takeD (some 27) (i := 14) (v := undef) rfl rfl rfl (by kernel_rfl) (by kernel_rfl) (by kernel_rfl) (fun _ _ _ h => h) (Or.inr ⟨by kernel_rfl, rfl⟩) (fun _ => rfl) (by assumption) ?_
        try simp only [Act.put, List.setIfInBounds_toArray, List.set_cons_zero, List.set_cons_succ]
        refine wpAnyIS_takeD (some 28) (i := 15) (v := undef) rfl rfl rfl (by kernel_rfl) (by kernel_rfl) (by kernel_rfl) (fun _ _ _ h => h) (Or.inr ⟨by kernel_rfl, rfl⟩) (fun _ => rfl) (by assumption) ?_
        try simp only [Act.put, List.setIfInBounds_toArray, List.set_cons_zero, List.set_cons_succ]
        refine wpAnyIS_takeD (some 29) (i := 16) (v := ?vc16) rfl rfl rfl (by kernel_rfl) (by kernel_rfl) (by kernel_rfl) (fun _ _ _ h => h) (Or.inl ⟨by rfl, ?hyc16⟩) (fun _ => rfl) (by assumption) ?rc16
        case hyc16 => intro w hSw; (try dsimp only at hSw); go_simp; first | done | with_reducible rfl
        case' rc16 => try simp only [Act.put, List.setIfInBounds_toArray, List.set_cons_zero, List.set_cons_succ]
        refine wpAnyIS_done (by kernel_rfl) ?_ _
        have HG3 := Lib.hid (HG1.out.trans HGD.out)
        clear hHeld x0 e0 e1 e2 ca cb
        gi_wp2
        go_roundw
        case rel => exact ⟨k + 1, own1, by omega, by go_num, by rw [HNX.out]; exact HJD.out, HG3.out⟩
        case measure => simp [intOf]; omega
    · obtain rfl : k = N := by omega
      have HJF : Hid (J (ds.filter (brkB pl)) own1 wr) := Lib.hid (by have h := hj; rw [List.take_of_length_le (by rw [HN.out]; exact Nat.le_refl _)] at h; exact h)
      have HG1 := Lib.hid hg
      clear hj hg
      gi_wp2_with (fail)
      exact bodyPost_end (results_none rfl _ _ _) rfl ⟨⟨_, rfl⟩, own1, HG1.out.2, HG1.out.1.mono (fun _ _ h => .inl h), trivial, .inl HJF.out⟩
end Go.Proofs.YtbcjllanigmioaaGreat
