/- The texts U2 Qe1, joined. No statement is proved here. -/
import Derived.Test.YtccibfldadflkaaK25
import Derived.Test.YtccibfldadflkaaK33
import Derived.Test.YtccibfldadflkaaK20
/- The accesses of a trace as an iterator: uses. No statement is proved here. -/
namespace Go.Proofs.Ytccibfldadflkaa
open Go.RowKit Go.Maps
attribute [local go_sem] Oper.semAt_some

def usL (xs ns : List Int) : List (Int × Int) := xs.zip ns
def encU (x : Int × Int) : Array Value := #[.agg #[.int .i64 x.1, .int .i64 x.2]]
theorem usL_get {xs ns : List Int} {k : Nat} {x n : Int} (hx : xs[k]? = some x) (hn : ns[k]? = some n) : (usL xs ns)[k]? = some (x, n) := by
  unfold usL
  rw [List.getElem?_zip_eq_some]
  exact ⟨hx, hn⟩
theorem usL_len {xs ns : List Int} (h : ns.length = xs.length) : (usL xs ns).length = xs.length := by simp [usL, h]
theorem usL_fst {xs ns : List Int} (h : ns.length = xs.length) : (usL xs ns).map (·.1) = xs := by
  unfold usL
  rw [List.map_fst_zip]
  omega
theorem uses_call (p : Option Addr) (n c : Nat) (xs : List Int) (w : World) (hn : xs.length = n) (hm : n ≤ 600) (hx : ∀ x ∈ xs, i64 x) (hs : IntsAt w (.slice p n c) xs) :
    Calls Try.prog 62 #[.slice p n c] w fun e w' => ∃ PT PN q d, e = .returned (.func (.func 94) #[] #[.pointer (some ⟨PT, 0, none⟩), .pointer (some ⟨PN, 0, none⟩)]) ∧ Ext w w' ∧ w.heap.size ≤ PT ∧ w.heap.size ≤ PN ∧
      w'.heap[PT]? = some (.cells #[.slice p n c] 22 (0, 0)) ∧ w'.heap[PN]? = some (.cells #[.slice q n d] 22 (0, 0)) ∧ IntsOwn w.heap.size w' (.slice q n d) (nxL xs n) := by
  have HS := Lib.hid hs; have HN := Lib.hid hn; have HX := Lib.hid hx
  clear hs hn hx
  obtain ⟨g0, hg0⟩ : ∃ g0, w.heap.size = g0 := ⟨_, rfl⟩
  rw [hg0]
  obtain ⟨W0, hW0⟩ : ∃ W0, w.alloc (.cells #[.slice p n c] 22) = W0 := ⟨_, rfl⟩
  have E0 : Ext w W0 := by rw [← hW0]; exact (Ext.refl w).alloc _
  have B0 : W0.heap[g0]? = some (.cells #[.slice p n c] 22 (0, 0)) := by rw [← hW0]; exact blk_at hg0.symm
  have hs0 : W0.heap.size = g0 + 1 := by rw [← hW0, ← hg0]; simp
  have HE0 := Lib.hid E0; have HB0 := Lib.hid B0; have HS0 := Lib.hid hs0; have HS' := Lib.hid (HS.out.ext E0)
  obtain ⟨y0, -⟩ := blk1 B0
  clear E0 hs0
  go_enter Try.func62, Try.ntmps62
  go_wp2_with (fail)
  try rw [hW0]
  try rw [hg0]
  refine (nextUses_any p n c xs _ HN.out hm HX.out HS'.out).mono ?_
  rintro e w1 ⟨⟨v1, rfl, hv1⟩, hE1⟩
  obtain ⟨q, d, rfl⟩ : ∃ q d, v1 = .slice q n d := by
    rcases hv1.2 with ⟨rfl, h0⟩ | ⟨g, cap, cur, e, _⟩
    · rw [nxL_len, HN.out] at h0; subst h0; exact ⟨_, _, rfl⟩
    · rw [nxL_len, HN.out] at e; exact ⟨_, _, e⟩
  have HV1 := Lib.hid hv1; have HE1 := Lib.hid hE1
  clear hv1 hE1 B0
  go_wp2
  go_ret
  refine ⟨g0, w1.heap.size, q, d, rfl, (HE0.out.trans HE1.out).alloc _, Nat.le_refl _, ?_, ((Ext.refl w1).alloc _).blk (HE1.out.blk HB0.out), blk_at rfl, ?_⟩
  · have := HE1.out.size_le; have := HS0.out; omega
  · exact (HV1.out.ext ((Ext.refl w1).alloc _)).weak (by have := HS0.out; omega)

set_option linter.unusedVariables false in
set_option linter.unusedSimpArgs false in
set_option maxRecDepth 100000 in
set_option maxHeartbeats 4000000 in
theorem uses_seqB (base m m' PT PN N c d : Nat) (p q : Option Addr) (xs ns : List Int) (Z : Nat → Prop) (w : World) (hN : xs.length = N) (hN2 : N ≤ 600) (hM : ns.length = N)
    (hD : IntsAt w (.slice p N c) xs) (hD2 : IntsAt w (.slice q N d) ns) (hB : w.heap[PT]? = some (.cells #[.slice p N c] 22 (0, 0))) (hB2 : w.heap[PN]? = some (.cells #[.slice q N d] 22 (0, 0)))
    (hZ : ∀ b, Z b → b < w.heap.size) (hZP : Z PT) (hZN : Z PN) (hZD : ∀ b o, p = some ⟨b, o, none⟩ → 0 < N → Z b) (hZE : ∀ b o, q = some ⟨b, o, none⟩ → 0 < N → Z b) :
    SeqB base Fence.wide m m' Try.prog 94 #[.pointer (some ⟨PT, 0, none⟩), .pointer (some ⟨PN, 0, none⟩)] encU (fun _ _ => True) (fun _ => True) (fun _ => False) Z (usL xs ns) w := by
  intro l J Jx own W hvW hJ hJx hown hY h0
  have hBW := hvW.heap hB (fun h => h)
  have hB2W := hvW.heap hB2 (fun h => h)
  have hDW := hD.lv0 hvW (fun _ _ _ _ h => h)
  have hD2W := hD2.lv0 hvW (fun _ _ _ _ h => h)
  have hZW : ∀ b, Z b → b < W.heap.size := fun b h => Nat.lt_of_lt_of_le (hZ b h) hvW.size
  have HB := Lib.hid hBW; have HB2 := Lib.hid hB2W; have HDW := Lib.hid hDW; have HD2W := Lib.hid hD2W; have HY := Lib.hid hY; have HOWN := Lib.hid hown; have HZW := Lib.hid hZW; have H0 := Lib.hid h0; have HJ := Lib.hid hJ; have HZP := Lib.hid hZP; have HZN := Lib.hid hZN; have HZD := Lib.hid hZD; have HZE := Lib.hid hZE; have HN := Lib.hid hN; have HM := Lib.hid hM
  obtain ⟨b0, -⟩ := blk1 hBW
  clear hvW hB hB2 hD hD2 hBW hB2W hDW hD2W hZ hZW hY hown h0 hJ hJx hZP hZN hZD hZE hN hM
  have hdd : ∀ k : Nat, (Fence.wide.depth.isSome = true → 1 ≤ k) := fun k h => by cases h
  show CallsIn Fence.wide m Try.prog 94 #[.func (.yield l) #[] #[], .pointer (some ⟨PT, 0, none⟩), .pointer (some ⟨PN, 0, none⟩)] W _
  refine callsIn_of_wp Try.func94 rfl trivial ?_ rfl
  simp only [Try.ntmps94, List.size_toArray, List.length_cons, List.length_nil, Nat.reduceAdd, Nat.reduceSub, Array.replicate_succ, Array.replicate_zero, List.push_toArray, List.append_toArray, List.nil_append, List.cons_append]
  gi_wp2_with (fail)
  gi_loopw [8] (fun iv wr => ∃ (k : Nat) (own1 : List Nat), k ≤ N ∧ iv = .int .i64 k ∧ J ((usL xs ns).take k) own1 wr ∧ Grew own own1 W wr) (fun iv _ => N - (intOf iv).toNat)
  case atStart => exact ⟨0, own, by omega, rfl, H0.out, Grew.refl own W (fun b hb => (HOWN.out b hb).1)⟩
  case round =>
    obtain ⟨k, own1, hk, rfl, hj, hg⟩ := hrel
    by_cases hlt : k < N
    · obtain ⟨x, hx⟩ := get_some (xs := xs) (k := k) (by rw [HN.out]; exact hlt)
      obtain ⟨nv, hnv⟩ := get_some (xs := ns) (k := k) (by rw [HM.out]; exact hlt)
      have hget := usL_get hx hnv
      have HTK : Hid ((usL xs ns).take (k + 1) = (usL xs ns).take k ++ [(x, nv)]) := Lib.hid (take_next hget)
      have hpre : ((usL xs ns).take k ++ [(x, nv)]) <+: usL xs ns := by rw [← HTK.out]; exact List.take_prefix _ _
      have y0 := (blk1 (hg.1.heap HB2.out (fun h => (HOWN.out _ h).2 HZN.out))).1
      have hDr := HDW.out.lv0 hg.1 (fun b o hb _ h => (HOWN.out _ h).2 (HZD.out b o hb (by omega)))
      have hDs := HD2W.out.lv0 hg.1 (fun b o hb _ h => (HOWN.out _ h).2 (HZE.out b o hb (by omega)))
      obtain ⟨-, hcc⟩ := hDr.cl
      obtain ⟨b, off, rfl, d0⟩ := hcc k x hx
      obtain ⟨-, hcc2⟩ := hDs.cl
      obtain ⟨b', off', rfl, d1⟩ := hcc2 k nv hnv
      obtain ⟨fn, tmps, assign, body, hy, hR⟩ := HY.out _ (x, nv) own1 _ hj hpre trivial (own_nextU HOWN.out hg HZW.out)
      dsimp only [encU] at hy
      have HG1 := Lib.hid hg; have HPRE := Lib.hid hpre
      have hkI : (k : Int) < (N : Int) := by omega
      clear hj hg hget hpre hDr hDs hcc hcc2 hx hnv b0
      gi_wp2_with (fail)
      refine ⟨hdd _, ?_⟩
      refine (round_wide hR).mono ?_
      clear hR
      rintro e V2 ⟨own3, hg3, (⟨rfl, hj3⟩ | ⟨rfl, hj3⟩)⟩
      · have HJ3 := Lib.hid hj3; have HG3 := Lib.hid (HG1.out.trans hg3)
        clear hg3 hj3 hy y0 d0 d1
        gi_wp2
        go_roundw
        case rel => exact ⟨k + 1, own3, by omega, by go_num, by rw [HTK.out]; exact HJ3.out, HG3.out⟩
        case measure => simp [intOf] <;> omega
      · have HJ3 := Lib.hid hj3; have HG3 := Lib.hid (HG1.out.trans hg3)
        clear hg3 hj3 hy y0 d0 d1
        gi_wp2
        first
          | refine bodyPost_ret (results_none rfl _ _ _) rfl ?_
          | refine ⟨_, results_none rfl _ _ _, ?_⟩
        exact ⟨⟨_, rfl⟩, own3, HG3.out.2, HG3.out.1.mono (fun _ _ h => .inl h), trivial, .inr ⟨_, HPRE.out, HJ3.out⟩⟩
    · obtain rfl : k = N := by omega
      have HJ1 : Hid (J (usL xs ns) own1 wr) := Lib.hid (by have h := hj; rwa [List.take_of_length_le (by rw [usL_len (by rw [HM.out, HN.out]), HN.out]; exact Nat.le_refl _)] at h)
      have HG1 := Lib.hid hg
      clear hj hg
      gi_wp2_with (fail)
      first
        | exact bodyPost_end (results_none rfl _ _ _) rfl ⟨⟨_, rfl⟩, own1, HG1.out.2, HG1.out.1.mono (fun _ _ h => .inl h), trivial, .inl HJ1.out⟩
        | exact bodyPost_end (results_none rfl _ _ _) rfl ⟨⟨_, rfl⟩, own1, HG1.out.2, HG1.out.1, .inl HJ1.out⟩
        | exact bodyPost_end (results_none rfl _ _ _) rfl ⟨own1, HG1.out.2, HG1.out.1, .inl HJ1.out⟩
end Go.Proofs.Ytccibfldadflkaa

/- The heap of the accesses to come (queue at use): its items in memory, its order, its methods. No statement is proved here. -/
namespace Go.Proofs.Ytccibfldadflkaa
open Go.RowKit Go.Maps

/-- An access: its cell and the next access of the cell. -/
abbrev Us := Int × Int
def usC (l : List Us) : List Value := l.flatMap (fun u => [.int .i64 u.1, .int .i64 u.2])
theorem usC_at : ∀ {l : List Us} {i : Nat} {u : Us}, l[i]? = some u → (usC l)[i * 2]? = some (.int .i64 u.1) ∧ (usC l)[i * 2 + 1]? = some (.int .i64 u.2)
  | [], i, u, h => by simp at h
  | a :: r, 0, u, h => by simp at h; subst h; exact ⟨rfl, rfl⟩
  | a :: r, i + 1, u, h => by
    have h2 := usC_at (l := r) (i := i) (u := u) (by simpa using h)
    have e : (i + 1) * 2 = i * 2 + 1 + 1 := by omega
    rw [e]
    exact ⟨by simpa [usC] using h2.1, by simpa [usC] using h2.2⟩
theorem usC_app (a b : List Us) : usC (a ++ b) = usC a ++ usC b := by simp [usC]
theorem usC_set : ∀ {l : List Us} {i : Nat} (u : Us), i < l.length → usC (l.set i u) = ((usC l).set (i * 2) (.int .i64 u.1)).set (i * 2 + 1) (.int .i64 u.2)
  | [], i, u, h => by simp at h
  | a :: r, 0, u, _ => rfl
  | a :: r, i + 1, u, h => by
    have h2 := usC_set (l := r) (i := i) u (by simpa using h)
    have e : (i + 1) * 2 = i * 2 + 1 + 1 := by omega
    rw [e]
    simp only [usC, List.set_cons_succ, List.flatMap_cons, List.cons_append, List.nil_append] at h2 ⊢
    rw [h2]
theorem usC_take (l : List Us) (k : Nat) : usC (l.take k) = (usC l).take (k * 2) := by
  induction l generalizing k with
  | nil => simp [usC]
  | cons a r ih =>
    cases k with
    | zero => simp [usC]
    | succ k =>
      have e : (k + 1) * 2 = k * 2 + 1 + 1 := by omega
      rw [e]
      simp only [usC, List.take_succ_cons, List.flatMap_cons, List.cons_append, List.nil_append] at ih ⊢
      rw [ih]

/-- The items in a row of their own. -/
def ItQ (B o n c : Nat) (w : World) (xs : List Us) : Prop := w.ownsRow B 121 2 (.slice (some ⟨o, 0, none⟩) n c) n (usC xs) ∧ xs.length = n
theorem ItQ.cell {B o n c i : Nat} {w : World} {xs : List Us} {u : Us} (h : ItQ B o n c w xs) (hi : xs[i]? = some u) : w.cell? ⟨o, i * 2, none⟩ = some (.int .i64 u.1) ∧ w.cell? ⟨o, i * 2 + 1, none⟩ = some (.int .i64 u.2) := by
  obtain ⟨h0, h1⟩ := usC_at hi
  have hadd : ∀ j : Nat, (⟨o, 0, none⟩ : Addr).add j = ⟨o, j, none⟩ := fun j => by unfold Addr.add; split <;> simp_all
  have c0 := World.ownsRow.cells h.1 (g := o) rfl _ _ h0
  have c1 := World.ownsRow.cells h.1 (g := o) rfl _ _ h1
  rw [hadd] at c0 c1
  exact ⟨c0, c1⟩
theorem ItQ.lt {B o n c : Nat} {w : World} {xs : List Us} (h : ItQ B o n c w xs) : B ≤ o ∧ o < w.heap.size := World.ownsRow.lt h.1 o rfl
theorem ItQ.set {B o n c i : Nat} {w : World} {xs : List Us} (h : ItQ B o n c w xs) (u : Us) (hi : i < n) : ItQ B o n c ((w.setCell ⟨o, i * 2, none⟩ (.int .i64 u.1)).setCell ⟨o, i * 2 + 1, none⟩ (.int .i64 u.2)) (xs.set i u) := by
  refine ⟨?_, by rw [List.length_set]; exact h.2⟩
  rw [usC_set u (by rw [h.2]; exact hi)]
  exact (World.ownsRow.stored (World.ownsRow.stored h.1 (i * 2) (.int .i64 u.1)).1 (i * 2 + 1) (.int .i64 u.2)).1
theorem ItQ.ext {B o n c : Nat} {w w' : World} {xs : List Us} (h : ItQ B o n c w xs) (hE : Ext w w') : ItQ B o n c w' xs := ⟨ownsRow_ext h.1 hE, h.2⟩
theorem ItQ.frz {B o n c : Nat} {w : World} {xs : List Us} (h : ItQ B o n c w xs) (i : Nat) : w.frozen? ⟨o, i, none⟩ = false := World.ownsRow.frozenAt h.1 i

theorem order_any (a b : Us) (w : World) : Calls Try.prog 63 #[.agg #[.int .i64 a.1, .int .i64 a.2], .agg #[.int .i64 b.1, .int .i64 b.2]] w fun e w' => e = .returned (.int .i64 (cmp3 b.2 a.2)) ∧ Ext w w' := by
  obtain ⟨a1, a2⟩ := a
  obtain ⟨b1, b2⟩ := b
  dsimp only
  obtain ⟨W0, hW0⟩ : ∃ W, (w.alloc (.cells #[.int .i64 a1, .int .i64 a2] 121)).alloc (.cells #[.int .i64 b1, .int .i64 b2] 121) = W := ⟨_, rfl⟩
  have E0 : Ext w W0 := by rw [← hW0]; exact ((Ext.refl w).alloc _).alloc _
  have hA : W0.heap[w.heap.size]? = some (.cells #[.int .i64 a1, .int .i64 a2] 121 (0, 0)) := by rw [← hW0]; exact blk_old (blk_at rfl)
  have hB : W0.heap[w.heap.size + 1]? = some (.cells #[.int .i64 b1, .int .i64 b2] 121 (0, 0)) := by rw [← hW0]; exact blk_at (by simp)
  obtain ⟨a0, a1', -, -⟩ := blk2 hA
  obtain ⟨b0, b1', -, -⟩ := blk2 hB
  have HE := Lib.hid E0
  clear hA hB E0
  go_enter Try.func63, Try.ntmps63
  go_wp2_with (fail)
  try rw [hW0]
  refine (cmp_any b2 a2 _).mono ?_
  rintro e w1 ⟨rfl, rfl⟩
  go_wp2
  go_ret
  exact ⟨rfl, HE.out⟩
theorem cmp3_neg (x y : Int) : decide (cmp3 x y < 0) = decide (x < y) := by
  unfold cmp3
  rcases Int.lt_trichotomy x y with h | h | h
  · simp [h]
  · subst h; simp
  · have h1 : ¬ x < y := by omega
    simp [h, h1]

/-- The queue's block: its items and its order. -/
abbrev OF : Value := .func (.func 63) #[] #[]
def QuB (w : World) (g : Nat) (p : Option Addr) (n c : Nat) : Prop := w.heap[g]? = some (.cells #[.slice p n c, OF] 128 (0, 0))

theorem queueLen_any (g : Nat) (p : Option Addr) (n c : Nat) (w : World) (h : QuB w g p n c) : Calls Try.prog 149 #[.pointer (some ⟨g, 0, none⟩)] w fun e w' => e = .returned (.int .i64 (n : Int)) ∧ w' = w := by
  obtain ⟨q0, q1, -, -⟩ := blk2 h
  clear h
  go_enter Try.func149, Try.ntmps149
  go_wp2
  go_ret
  exact ⟨rfl, rfl⟩
set_option maxRecDepth 100000 in
set_option maxHeartbeats 2000000 in
theorem queueLess_any (B g o n c a b : Nat) (xs : List Us) (x y : Us) (w : World) (hq : QuB w g (some ⟨o, 0, none⟩) n c) (h : ItQ B o n c w xs) (ha : xs[a]? = some x) (hb : xs[b]? = some y) :
    Calls Try.prog 177 #[.pointer (some ⟨g, 0, none⟩), .int .i64 (a : Int), .int .i64 (b : Int)] w fun e w' => e = .returned (.bool (decide (y.2 < x.2))) ∧ Ext w w' := by
  obtain ⟨q0, q1, -, -⟩ := blk2 hq
  obtain ⟨c0, c1⟩ := h.cell ha
  obtain ⟨d0, d1⟩ := h.cell hb
  have hla : a < n := by have := (List.getElem?_eq_some_iff.1 ha).1; rw [h.2] at this; exact this
  have hlb : b < n := by have := (List.getElem?_eq_some_iff.1 hb).1; rw [h.2] at this; exact this
  have haI : (a : Int) < (n : Int) := by omega
  have hbI : (b : Int) < (n : Int) := by omega
  have HC := Lib.hid (cmp3_neg y.2 x.2)
  clear h ha hb hq
  go_enter Try.func177, Try.ntmps177
  go_wp2
  go_region_held3 (fun W => W.cell? ⟨g, 0, none⟩ = some (.slice (some ⟨o, 0, none⟩) n c) ∧ W.cell? ⟨g, 1, none⟩ = some OF ∧ W.cell? ⟨o, a * 2, none⟩ = some (.int .i64 x.1) ∧ W.cell? ⟨o, a * 2 + 1, none⟩ = some (.int .i64 x.2) ∧ W.cell? ⟨o, b * 2, none⟩ = some (.int .i64 y.1) ∧ W.cell? ⟨o, b * 2 + 1, none⟩ = some (.int .i64 y.2))
    (first | exact ⟨q0, q1, c0, c1, d0, d1⟩ | exact ⟨g3.keep q0, g3.keep q1, g3.keep c0, g3.keep c1, g3.keep d0, g3.keep d1⟩ | fail)
    (first | (go_at_call 63; (with_reducible refine (order_any x y _).mono ?_); rintro e w3 ⟨rfl, hE3⟩; have g3 := (Ext.refl w).drew.trans hE3) | fail)
  rw [HC.out]
  go_wp2
  go_ret
  exact ⟨rfl, g3⟩
end Go.Proofs.Ytccibfldadflkaa
