/- The texts U2, joined. No statement is proved here. -/
import Derived.Test.YtggpjapmhakklaaK15
/- The accesses of a trace as an iterator: uses. No statement is proved here. -/
namespace Go.Proofs.Ytggpjapmhakklaa
open Go.RowKit Go.Maps
attribute [local go_sem] Oper.semAt_some

def usL (xs ns : List Int) : List (Int × Int) := xs.zip ns
def encU (x : Int × Int) : Array Value := #[.agg #[.int .i64 x.1, .int .i64 x.2]]
theorem usL_get {xs ns : List Int} {k : Nat} {x n : Int} (hx : xs[k]? = some x) (hn : ns[k]? = some n) : (usL xs ns)[k]? = some (x, n) := by
  unfold usL
  rw [List.getElem?_zip_eq_some]
  exact ⟨hx, hn⟩
theorem usL_len {xs ns : List Int} (h : ns.length = xs.length) : (usL xs ns).length = xs.length := by simp [usL, h]
theorem usL_fst {xs ns : List Int} (h : ns.length = xs.length) : (usL xs ns).map (·.1) = xs := by
  unfold usL
  rw [List.map_fst_zip]
  omega
theorem uses_call (p : Option Addr) (n c : Nat) (xs : List Int) (w : World) (hn : xs.length = n) (hm : n ≤ 600) (hx : ∀ x ∈ xs, i64 x) (hs : IntsAt w (.slice p n c) xs) :
    Calls Try.prog 35 #[.slice p n c] w fun e w' => ∃ PT PN q d, e = .returned (.func (.func 60) #[] #[.pointer (some ⟨PT, 0, none⟩), .pointer (some ⟨PN, 0, none⟩)]) ∧ Ext w w' ∧ w.heap.size ≤ PT ∧ w.heap.size ≤ PN ∧
      w'.heap[PT]? = some (.cells #[.slice p n c] 22 (0, 0)) ∧ w'.heap[PN]? = some (.cells #[.slice q n d] 22 (0, 0)) ∧ IntsOwn w.heap.size w' (.slice q n d) (nxL xs n) := by
  have HS := Lib.hid hs; have HN := Lib.hid hn; have HX := Lib.hid hx
  clear hs hn hx
  obtain ⟨g0, hg0⟩ : ∃ g0, w.heap.size = g0 := ⟨_, rfl⟩
  rw [hg0]
  obtain ⟨W0, hW0⟩ : ∃ W0, w.alloc (.cells #[.slice p n c] 22) = W0 := ⟨_, rfl⟩
  have E0 : Ext w W0 := by rw [← hW0]; exact (Ext.refl w).alloc _
  have B0 : W0.heap[g0]? = some (.cells #[.slice p n c] 22 (0, 0)) := by rw [← hW0]; exact blk_at hg0.symm
  have hs0 : W0.heap.size = g0 + 1 := by rw [← hW0, ← hg0]; simp
  have HE0 := Lib.hid E0; have HB0 := Lib.hid B0; have HS0 := Lib.hid hs0; have HS' := Lib.hid (HS.out.ext E0)
  obtain ⟨y0, -⟩ := blk1 B0
  clear E0 hs0
  go_enter Try.func35, Try.ntmps35
  go_wp2_with (fail)
  try rw [hW0]
  try rw [hg0]
  refine (nextUses_any p n c xs _ HN.out hm HX.out HS'.out).mono ?_
  rintro e w1 ⟨⟨v1, rfl, hv1⟩, hE1⟩
  obtain ⟨q, d, rfl⟩ : ∃ q d, v1 = .slice q n d := by
    rcases hv1.2 with ⟨rfl, h0⟩ | ⟨g, cap, cur, e, _⟩
    · rw [nxL_len, HN.out] at h0; subst h0; exact ⟨_, _, rfl⟩
    · rw [nxL_len, HN.out] at e; exact ⟨_, _, e⟩
  have HV1 := Lib.hid hv1; have HE1 := Lib.hid hE1
  clear hv1 hE1 B0
  go_wp2
  go_ret
  refine ⟨g0, w1.heap.size, q, d, rfl, (HE0.out.trans HE1.out).alloc _, Nat.le_refl _, ?_, ((Ext.refl w1).alloc _).blk (HE1.out.blk HB0.out), blk_at rfl, ?_⟩
  · have := HE1.out.size_le; have := HS0.out; omega
  · exact (HV1.out.ext ((Ext.refl w1).alloc _)).weak (by have := HS0.out; omega)

set_option linter.unusedVariables false in
set_option linter.unusedSimpArgs false in
set_option maxRecDepth 100000 in
set_option maxHeartbeats 4000000 in
theorem uses_seqB (base m m' PT PN N c d : Nat) (p q : Option Addr) (xs ns : List Int) (Z : Nat → Prop) (w : World) (hN : xs.length = N) (hN2 : N ≤ 600) (hM : ns.length = N)
    (hD : IntsAt w (.slice p N c) xs) (hD2 : IntsAt w (.slice q N d) ns) (hB : w.heap[PT]? = some (.cells #[.slice p N c] 22 (0, 0))) (hB2 : w.heap[PN]? = some (.cells #[.slice q N d] 22 (0, 0)))
    (hZ : ∀ b, Z b → b < w.heap.size) (hZP : Z PT) (hZN : Z PN) (hZD : ∀ b o, p = some ⟨b, o, none⟩ → 0 < N → Z b) (hZE : ∀ b o, q = some ⟨b, o, none⟩ → 0 < N → Z b) :
    SeqB base Fence.wide m m' Try.prog 60 #[.pointer (some ⟨PT, 0, none⟩), .pointer (some ⟨PN, 0, none⟩)] encU (fun _ _ => True) (fun _ => True) (fun _ => False) Z (usL xs ns) w := by
  intro l J Jx own W hvW hJ hJx hown hY h0
  have hBW := hvW.heap hB (fun h => h)
  have hB2W := hvW.heap hB2 (fun h => h)
  have hDW := hD.lv0 hvW (fun _ _ _ _ h => h)
  have hD2W := hD2.lv0 hvW (fun _ _ _ _ h => h)
  have hZW : ∀ b, Z b → b < W.heap.size := fun b h => Nat.lt_of_lt_of_le (hZ b h) hvW.size
  have HB := Lib.hid hBW; have HB2 := Lib.hid hB2W; have HDW := Lib.hid hDW; have HD2W := Lib.hid hD2W; have HY := Lib.hid hY; have HOWN := Lib.hid hown; have HZW := Lib.hid hZW; have H0 := Lib.hid h0; have HJ := Lib.hid hJ; have HZP := Lib.hid hZP; have HZN := Lib.hid hZN; have HZD := Lib.hid hZD; have HZE := Lib.hid hZE; have HN := Lib.hid hN; have HM := Lib.hid hM
  obtain ⟨b0, -⟩ := blk1 hBW
  clear hvW hB hB2 hD hD2 hBW hB2W hDW hD2W hZ hZW hY hown h0 hJ hJx hZP hZN hZD hZE hN hM
  have hdd : ∀ k : Nat, (Fence.wide.depth.isSome = true → 1 ≤ k) := fun k h => by cases h
  show CallsIn Fence.wide m Try.prog 60 #[.func (.yield l) #[] #[], .pointer (some ⟨PT, 0, none⟩), .pointer (some ⟨PN, 0, none⟩)] W _
  refine callsIn_of_wp Try.func60 rfl trivial ?_ rfl
  simp only [Try.ntmps60, List.size_toArray, List.length_cons, List.length_nil, Nat.reduceAdd, Nat.reduceSub, Array.replicate_succ, Array.replicate_zero, List.push_toArray, List.append_toArray, List.nil_append, List.cons_append]
  gi_wp2_with (fail)
  gi_loopw [8] (fun iv wr => ∃ (k : Nat) (own1 : List Nat), k ≤ N ∧ iv = .int .i64 k ∧ J ((usL xs ns).take k) own1 wr ∧ Grew own own1 W wr) (fun iv _ => N - (intOf iv).toNat)
  case atStart => exact ⟨0, own, by omega, rfl, H0.out, Grew.refl own W (fun b hb => (HOWN.out b hb).1)⟩
  case round =>
    obtain ⟨k, own1, hk, rfl, hj, hg⟩ := hrel
    by_cases hlt : k < N
    · obtain ⟨x, hx⟩ := get_some (xs := xs) (k := k) (by rw [HN.out]; exact hlt)
      obtain ⟨nv, hnv⟩ := get_some (xs := ns) (k := k) (by rw [HM.out]; exact hlt)
      have hget := usL_get hx hnv
      have HTK : Hid ((usL xs ns).take (k + 1) = (usL xs ns).take k ++ [(x, nv)]) := Lib.hid (take_next hget)
      have hpre : ((usL xs ns).take k ++ [(x, nv)]) <+: usL xs ns := by rw [← HTK.out]; exact List.take_prefix _ _
      have y0 := (blk1 (hg.1.heap HB2.out (fun h => (HOWN.out _ h).2 HZN.out))).1
      have hDr := HDW.out.lv0 hg.1 (fun b o hb _ h => (HOWN.out _ h).2 (HZD.out b o hb (by omega)))
      have hDs := HD2W.out.lv0 hg.1 (fun b o hb _ h => (HOWN.out _ h).2 (HZE.out b o hb (by omega)))
      obtain ⟨-, hcc⟩ := hDr.cl
      obtain ⟨b, off, rfl, d0⟩ := hcc k x hx
      obtain ⟨-, hcc2⟩ := hDs.cl
      obtain ⟨b', off', rfl, d1⟩ := hcc2 k nv hnv
      obtain ⟨fn, tmps, assign, body, hy, hR⟩ := HY.out _ (x, nv) own1 _ hj hpre trivial (own_nextU HOWN.out hg HZW.out)
      dsimp only [encU] at hy
      have HG1 := Lib.hid hg; have HPRE := Lib.hid hpre
      have hkI : (k : Int) < (N : Int) := by omega
      clear hj hg hget hpre hDr hDs hcc hcc2 hx hnv b0
      gi_wp2_with (fail)
      refine ⟨hdd _, ?_⟩
      refine (round_wide hR).mono ?_
      clear hR
      rintro e V2 ⟨own3, hg3, (⟨rfl, hj3⟩ | ⟨rfl, hj3⟩)⟩
      · have HJ3 := Lib.hid hj3; have HG3 := Lib.hid (HG1.out.trans hg3)
        clear hg3 hj3 hy y0 d0 d1
        gi_wp2
        go_roundw
        case rel => exact ⟨k + 1, own3, by omega, by go_num, by rw [HTK.out]; exact HJ3.out, HG3.out⟩
        case measure => simp [intOf] <;> omega
      · have HJ3 := Lib.hid hj3; have HG3 := Lib.hid (HG1.out.trans hg3)
        clear hg3 hj3 hy y0 d0 d1
        gi_wp2
        first
          | refine bodyPost_ret (results_none rfl _ _ _) rfl ?_
          | refine ⟨_, results_none rfl _ _ _, ?_⟩
        exact ⟨⟨_, rfl⟩, own3, HG3.out.2, HG3.out.1.mono (fun _ _ h => .inl h), trivial, .inr ⟨_, HPRE.out, HJ3.out⟩⟩
    · obtain rfl : k = N := by omega
      have HJ1 : Hid (J (usL xs ns) own1 wr) := Lib.hid (by have h := hj; rwa [List.take_of_length_le (by rw [usL_len (by rw [HM.out, HN.out]), HN.out]; exact Nat.le_refl _)] at h)
      have HG1 := Lib.hid hg
      clear hj hg
      gi_wp2_with (fail)
      first
        | exact bodyPost_end (results_none rfl _ _ _) rfl ⟨⟨_, rfl⟩, own1, HG1.out.2, HG1.out.1.mono (fun _ _ h => .inl h), trivial, .inl HJ1.out⟩
        | exact bodyPost_end (results_none rfl _ _ _) rfl ⟨⟨_, rfl⟩, own1, HG1.out.2, HG1.out.1, .inl HJ1.out⟩
        | exact bodyPost_end (results_none rfl _ _ _) rfl ⟨own1, HG1.out.2, HG1.out.1, .inl HJ1.out⟩
end Go.Proofs.Ytggpjapmhakklaa
