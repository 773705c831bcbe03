/- FnLexLess: the order of points, as the statement asks it of every input. -/
import Derived.Test.YtahdkkfmaanhkaaD5
import Derived.Test.YtahdkkfmaanhkaaOpB
namespace Go.Proofs.Ytahdkkfmaanhkaa
open Go.RowKit Go.ChangeShapes Go.WideShapes Go.ChangeAt Go.Joins

theorem lexB_irrefl (p : List Int) : lexB p p = false := by
  induction p with
  | nil => rfl
  | cons a p ih => simp [lexB, ih]
theorem lexB_asymm {p q : List Int} (h : lexB p q = true) : lexB q p = false := by
  induction p generalizing q with
  | nil => cases q <;> rfl
  | cons a p ih =>
    cases q with
    | nil => cases h
    | cons b q =>
      simp only [lexB] at h ⊢
      by_cases e : a = b
      · rw [if_pos e] at h; rw [if_pos e.symm]; exact ih h
      · rw [if_neg e] at h; rw [if_neg (fun e' => e e'.symm)]
        simp at h ⊢; omega
theorem lexB_conn {p q : List Int} (h : lexB p q = false) (k : lexB q p = false) : p = q := by
  induction p generalizing q with
  | nil => cases q with
    | nil => rfl
    | cons b q => cases h
  | cons a p ih =>
    cases q with
    | nil => cases k
    | cons b q =>
      simp only [lexB] at h k
      by_cases e : a = b
      · rw [if_pos e] at h; rw [if_pos e.symm] at k; rw [e, ih h k]
      · rw [if_neg e] at h; rw [if_neg (fun e' => e e'.symm)] at k
        simp at h k; omega
theorem lexB_trans {p q s : List Int} (h : lexB p q = true) (k : lexB q s = true) : lexB p s = true := by
  induction p generalizing q s with
  | nil =>
    cases s with
    | nil => rw [lexB_nil'] at k; cases k
    | cons c s => rfl
  | cons a p ih =>
    cases q with
    | nil => cases h
    | cons b q =>
      cases s with
      | nil => cases k
      | cons c s =>
        simp only [lexB] at h k ⊢
        by_cases e : a = b
        · rw [if_pos e] at h
          by_cases e2 : b = c
          · rw [if_pos e2] at k; rw [if_pos (e.trans e2)]; exact ih h k
          · rw [if_neg e2] at k; rw [if_neg (by rw [e]; exact e2), e]; exact k
        · rw [if_neg e] at h
          by_cases e2 : b = c
          · rw [if_neg (by rw [← e2]; exact e), ← e2]; exact h
          · rw [if_neg e2] at k; simp at h k
            rw [if_neg (by omega)]; simp; omega

set_option maxHeartbeats 800000 in
theorem lnInts_any (s t : Value) (xs ys : List Int) (w : World) (hs : IntsAt w s xs) (ht : IntsAt w t ys) :
    Calls Try.prog 28 #[s, t] w fun e w' => e = .returned (.bool (eqB xs ys)) ∧ Ext w w' := by
  obtain ⟨p, c, rfl, hm, hc⟩ := hs.get
  obtain ⟨q, d, rfl, hm2, hd⟩ := ht.get
  clear hs ht
  generalize hlen : xs.length = n at *
  have HL := Lib.hid hlen; clear hlen
  have HC := Lib.hid hc; clear hc
  have HD := Lib.hid hd; clear hd
  by_cases hne : ys.length = n
  · have HN := Lib.hid hne
    rw [hne] at hm2 ⊢
    clear hne
    go_enter Try.func28, Try.ntmps28
    go_wp2
    go_loopw [5] (fun i wr => ∃ k : Nat, k ≤ n ∧ i = .int .i64 k ∧ xs.take k = ys.take k ∧ Ext w wr) (fun i _ => n - (intOf i).toNat)
    case atStart => exact ⟨0, by omega, rfl, rfl, Ext.refl w⟩
    case round =>
      obtain ⟨k, hk, rfl, htk, hE⟩ := hrel
      have HT := Lib.hid htk; clear htk
      by_cases hlt : k < n
      · obtain ⟨x, hx⟩ := get_some (xs := xs) (k := k) (by rw [HL.out]; exact hlt)
        obtain ⟨y, hy⟩ := get_some (xs := ys) (k := k) (by rw [HN.out]; exact hlt)
        obtain ⟨b, off, rfl, hck, hbl⟩ := HC.out k x hx
        obtain ⟨b2, off2, rfl, hdk, hbl2⟩ := HD.out k y hy
        have hck' := (hE.cells.1 _ (off + k) hbl).trans hck
        have hdk' := (hE.cells.1 _ (off2 + k) hbl2).trans hdk
        have HX := Lib.hid hx; clear hx
        have HY := Lib.hid hy; clear hy
        clear hck hdk
        by_cases hxy : x = y
        · subst hxy
          go_wp2
          go_quiet (fail)
          go_wp2
          go_roundw
          case rel => exact ⟨k + 1, by omega, by go_num, take_eq_next HX.out HY.out HT.out rfl, hE.drewN _⟩
          case measure => simp [intOf]; omega
        · have hb : (x != y) = true := by simp [hxy]
          have HXY := Lib.hid hxy; clear hxy
          go_wp2
          go_quiet (fail)
          go_wp2
          go_ret
          exact ⟨ret_bool (eqB_ne HX.out HY.out HXY.out).symm, hE.drewN _⟩
      · go_wp2
        go_ret
        exact ⟨ret_bool (eqB_all (by rw [HL.out]; omega) (by rw [HN.out]; omega) HT.out).symm, hE⟩
  · have hb : ((n : Int) != ys.length) = true := by simp; omega
    have HN := Lib.hid hne; clear hne
    go_enter Try.func28, Try.ntmps28
    go_wp2
    go_ret
    exact ⟨ret_bool (eqB_len (by rw [HL.out]; exact fun e => HN.out e.symm)).symm, Ext.refl w⟩

set_option maxHeartbeats 4000000 in
set_option maxRecDepth 100000 in
theorem walkFnLexLess (v0 v1 : Value) (w : World) (h0 : RBytes w v0) (h1 : RBytes w v1) :
    Calls Try.prog 6 #[v0, v1] w fun e w' => e = .returned (.bool true) ∧ Below w.heap.size w w' := by
  obtain ⟨p0, n0, c0, rfl, hb0, hl0⟩ := h0
  obtain ⟨p1, n1, c1, rfl, hb1, hl1⟩ := h1
  have hm0 := hb0.2.1
  have hm1 := hb1.2.1
  have HB0 := Lib.hid hb0; have HL0 := Lib.hid hl0; have HB1 := Lib.hid hb1; have HL1 := Lib.hid hl1; clear hb0 hl0 hb1 hl1
  by_cases h0 : n0 ≤ 1048576
  · by_cases h1 : n1 ≤ 1048576
    · have hd0 : decide ((1048576 : Int) < n0) = false := by simp; omega
      have hd1 : decide ((1048576 : Int) < n1) = false := by simp; omega
      go_enter Try.func6, Try.ntmps6
      go_wp2_with (fail)
      refine (DrawLexLess_any p0 n0 c0 _ HB0.out HL0.out).mono ?_
      rintro e w1 ⟨⟨u, v, xs, ys, rfl, hx, hy⟩, E1⟩
      have HX := Lib.hid hx; have HY := Lib.hid hy; clear hx hy
      have hl1' : ∀ b off, 0 < n1 → p1 = some ⟨b, off, none⟩ → b < w1.heap.size := fun b off hn e => Nat.lt_of_lt_of_le (HL1.out b off hn e) E1.size_le
      have HL1' := Lib.hid hl1'; clear hl1'
      go_wp2_with (fail)
      refine (DrawLexLess_any p1 n1 c1 _ (HB1.out.ext E1) HL1'.out).mono ?_
      rintro e w2 ⟨⟨u2, v2, us, zs, rfl, hu, hz⟩, hE⟩
      have E2 := E1.trans hE
      have HX2 := Lib.hid (HX.out.ext hE); have HY2 := Lib.hid (HY.out.ext hE); have HZ2 := Lib.hid hz
      clear hE hu hz HX HY
      go_wp2_with (fail)
      refine (LexLess_any _ _ xs ys _ HX2.out HY2.out).mono ?_
      rintro e w3 ⟨rfl, rfl⟩
      go_wp2_with (fail)
      refine (LexLess_any _ _ ys xs _ HY2.out HX2.out).mono ?_
      rintro e w3 ⟨rfl, rfl⟩
      go_wp2_with (fail)
      refine (specLexLess_any _ _ xs ys _ HX2.out HY2.out).mono ?_
      rintro e w3 ⟨rfl, hE⟩
      have E3 := E2.trans hE
      have HX3 := Lib.hid (HX2.out.ext hE); have HY3 := Lib.hid (HY2.out.ext hE); have HZ3 := Lib.hid (HZ2.out.ext hE)
      clear hE HX2 HY2 HZ2
      cases ha : lexB xs ys with
      | true =>
        have hb := lexB_asymm ha
        rw [hb]
        have HA := Lib.hid ha; clear ha hb
        go_wp2_with (fail)
        refine (LexLess_any _ _ xs xs _ HX3.out HX3.out).mono ?_
        rw [lexB_irrefl]
        rintro e w4 ⟨rfl, rfl⟩
        go_wp2_with (fail)
        refine (LexLess_any _ _ ys zs _ HY3.out HZ3.out).mono ?_
        rintro e w4 ⟨rfl, rfl⟩
        cases hc : lexB ys zs with
        | true =>
          have hd := lexB_trans HA.out hc
          have HD := Lib.hid hd; clear hd hc
          go_wp2_with (fail)
          refine (LexLess_any _ _ xs zs _ HX3.out HZ3.out).mono ?_
          rw [HD.out]
          rintro e w4 ⟨rfl, rfl⟩
          go_wp2
          go_ret
          exact ⟨rfl, E3⟩
        | false =>
          clear hc
          go_wp2
          go_ret
          exact ⟨rfl, E3⟩
      | false =>
        cases hb : lexB ys xs with
        | true =>
          clear ha hb
          go_wp2_with (fail)
          refine (LexLess_any _ _ xs xs _ HX3.out HX3.out).mono ?_
          rw [lexB_irrefl]
          rintro e w4 ⟨rfl, rfl⟩
          go_wp2
          go_ret
          exact ⟨rfl, E3⟩
        | false =>
          have he := lexB_conn ha hb
          subst he
          clear ha hb
          go_wp2_with (fail)
          refine (lnInts_any _ _ xs xs _ HX3.out HY3.out).mono ?_
          rw [show eqB xs xs = true by simp [eqB]]
          rintro e w4 ⟨rfl, hE⟩
          have E4 := E3.trans hE
          have HX4 := Lib.hid (HX3.out.ext hE)
          clear hE
          go_wp2_with (fail)
          refine (LexLess_any _ _ xs xs _ HX4.out HX4.out).mono ?_
          rw [lexB_irrefl]
          rintro e w5 ⟨rfl, rfl⟩
          go_wp2
          go_ret
          exact ⟨rfl, E4⟩
    · have hd0 : decide ((1048576 : Int) < n0) = false := by simp; omega
      have hd1 : decide ((1048576 : Int) < n1) = true := by simp; omega
      go_enter Try.func6, Try.ntmps6
      go_wp2
      go_ret
      exact ⟨rfl, Ext.refl w⟩
  · have hd0 : decide ((1048576 : Int) < n0) = true := by simp; omega
    go_enter Try.func6, Try.ntmps6
    go_wp2
    go_ret
    exact ⟨rfl, Ext.refl w⟩

set_option linter.unusedVariables false in
set_option maxRecDepth 100000 in
theorem liftedFnLexLess (os : Os) (started : os.Started) (H : Type) (enc : TypeId × Value → H) :
    ReturnsInHanded {} Try.checked os 6 .any (Rows.fnLexLessSpec.pre6 enc Try.prog Try.f6 Rows.fnLexLessRow.domain false) (Rows.fnLexLessSpec.post enc Try.prog Try.f6 false true false false) := by
  refine returnsInHanded_of_change (C := Try.checked) own started (by kernel_rfl) Try.func6
    (ChangeSpec.witness6 (enc := enc) (C := Try.checked) false ⟨#[], #[.slice none 0 0, .slice none 0 0], []⟩ 8 (by kernel_rfl) (by kernel_rfl) (by kernel_rfl) (by kernel_rfl)) ?_
  intro W base args ds gs before hval0 hW hcnd _
  have hval : ∀ (j : Nat) t v, Try.f6.params[j]? = some t → args[j]? = some v → Value.okWide Try.prog W .any base t v := hval0
  have hW' := hW
  obtain ⟨p, q, hA0, hV, rfl, hfz, hnd⟩ := hW
  have hA : DataW.TrodAll enc Try.prog W 0 (fun _ => true) true Try.f6.params.toList args.toList ds p := hA0
  rw [Try.params6] at hA hval
  obtain ⟨v0, vs0, d0, ds0, p0, q0, hargs, rfl, rfl, h0, r0⟩ := trodAll_cons hA
  obtain ⟨v1, vs1, d1, ds1, p1, q1, rfl, rfl, rfl, h1, r1⟩ := trodAll_cons r0
  obtain ⟨rfl, rfl, rfl⟩ := trodAll_nil r1
  obtain rfl : args = #[v0, v1] := by cases args; simp_all
  obtain ⟨rfl, rfl⟩ := trodVars_none hV
  have lt0 : ∀ x ∈ p0, x.block < W.heap.size := by obtain ⟨m, hm⟩ := h0; exact DataW.trod_lt m _ _ _ hm
  have lt1 : ∀ x ∈ p1, x.block < W.heap.size := by obtain ⟨m, hm⟩ := h1; exact DataW.trod_lt m _ _ _ hm
  have o0 := open_bytes (hval 0 22 v0 rfl rfl) h0
  have o1 := open_bytes (hval 1 22 v1 rfl rfl) h1
  clear hA0 hval0
  refine (walkFnLexLess v0 v1 W o0 o1).mono fun e W' ⟨he, bel⟩ => ?_
  subst he
  exact ⟨_, rfl, _, _, _, [], _, [], hW', trodAll_mk1 (shut_bool Try.underlying4 _), (trodAll_cons_mk (Below.trod laidOut (by kernel_rfl) (of_decide_eq_true (by kernel_rfl)) h0 bel lt0) (trodAll_cons_mk (Below.trod laidOut (by kernel_rfl) (of_decide_eq_true (by kernel_rfl)) h1 bel lt1) trodAll_mk0)), rfl, bel.frame _, fun h => by cases h⟩

theorem overFnLexLess : Rows.fnLexLessRow.holds Try.pinned (OpenSpec.ofChange Rows.fnLexLessSpec) :=
  OpenClaim.holds_of_wide 6 Try.f6 rfl rfl rfl rfl rfl rfl rfl ⟨rfl, rfl, rfl, rfl, rfl⟩ rfl rfl rfl rfl rfl (by kernel_rfl) Try.func6 (by kernel_rfl)
    (of_decide_eq_true (by kernel_rfl)) (by unfold Func.isWrapper; first | (rw [if_pos (by decide +kernel)]; kernel_rfl) | (rw [if_neg (by decide +kernel)]; exact ⟨rfl, rfl⟩))
    (fun os started H enc _ => liftedFnLexLess os started H enc)

/-- The given statement. -/
theorem provedFnLexLess : Rows.FnLexLessSaid := overFnLexLess

end Go.Proofs.Ytahdkkfmaanhkaa
