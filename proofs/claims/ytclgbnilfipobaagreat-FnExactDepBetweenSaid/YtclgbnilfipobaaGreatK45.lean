/- The texts G26, joined. No statement is proved here. -/
import Derived.Test.YtclgbnilfipobaaGreatK44
/- Dependences between two instances: the model's DepBetween and the program's. No statement is proved here. -/
namespace Go.Proofs.YtclgbnilfipobaaGreat
open Go.RowKit Go.Maps

/-- What DepBetween answers. -/
def depB (ars : List Arr) (ps : List Pt) (a b : Int) : Int :=
  if progB ars ps = true ∧ 0 ≤ a ∧ a < b ∧ b < ((usesM ars ps).length : Int) then (match (usesM ars ps)[a.toNat]?, (usesM ars ps)[b.toNat]? with
    | some x, some y => kindB x y
    | _, _ => 0) else 0
theorem usesM_len (ars : List Arr) (ps : List Pt) : (usesM ars ps).length = (insM ps).length := by unfold usesM; rw [List.length_map]
theorem depB_no {ars : List Arr} {ps : List Pt} {a b : Int} (h : ¬ (progB ars ps = true ∧ 0 ≤ a ∧ a < b ∧ b < ((usesM ars ps).length : Int))) : depB ars ps a b = 0 := by unfold depB; rw [if_neg h]
theorem depB_yes {ars : List Arr} {ps : List Pt} {i j : Nat} {x y : Us} (hb : progB ars ps = true) (hij : i < j) (hx : (usesM ars ps)[i]? = some x) (hy : (usesM ars ps)[j]? = some y) : depB ars ps (i : Int) (j : Int) = kindB x y := by
  have hl := (List.getElem?_eq_some_iff.1 hy).1
  unfold depB
  rw [if_pos ⟨hb, by omega, by omega, by omega⟩, Int.toNat_natCast, Int.toNat_natCast, hx, hy]

set_option linter.unusedVariables false in
set_option linter.unusedSimpArgs false in
set_option maxRecDepth 100000 in
set_option maxHeartbeats 2000000 in
theorem specDepBetween_any (v : Value) (ars : List Arr) (ps : List Pt) (a b : Int) (w : World) (hp : PrR w v ars ps) :
    Calls Tryz.prog 51 #[v, .int .i64 a, .int .i64 b] w fun e w' => e = .returned (.int .i64 (depB ars ps a b)) ∧ Ext w w' := by
  obtain ⟨qa, ca, qp, cp, rfl, -, -, -, -⟩ := hp.parts
  obtain ⟨na, hna⟩ : ∃ n, ars.length = n := ⟨_, rfl⟩
  obtain ⟨np, hnp⟩ : ∃ n, ps.length = n := ⟨_, rfl⟩
  rw [hna, hnp] at hp ⊢
  have HP := Lib.hid hp
  obtain ⟨ans, hans⟩ : ∃ z, depB ars ps a b = z := ⟨_, rfl⟩
  rw [hans]
  obtain ⟨pb, hpb⟩ : ∃ z, progB ars ps = z := ⟨_, rfl⟩
  have HANS := Lib.hid hans; have HPB := Lib.hid hpb
  clear hp hna hnp hans hpb
  go_enter Tryz.func51, Tryz.ntmps51
  go_wp2_with (fail)
  obtain ⟨W0, hW0⟩ : ∃ W0, w.alloc (.cells #[.slice qa na ca, .slice qp np cp] 31) = W0 := ⟨_, rfl⟩
  have E0 : Hid (Ext w W0) := Lib.hid (by rw [← hW0]; exact (Ext.refl w).alloc _)
  have B0 := Lib.hid (show W0.heap[w.heap.size]? = some (.cells #[.slice qa na ca, .slice qp np cp] 31 (0, 0)) by rw [← hW0]; exact blk_at rfl)
  rw [hW0]
  clear hW0
  refine (specProgramValid_any _ ars ps _ (HP.out.ext E0.out)).mono ?_
  rw [HPB.out]
  rintro e w1 ⟨rfl, hE1⟩
  have E1 := Lib.hid (E0.out.trans hE1); have B1 := Lib.hid (hE1.blk B0.out)
  clear hE1
  cases pb with
  | false =>
    have HR : Hid (ans = 0) := Lib.hid (by rw [← HANS.out]; exact depB_no (fun h => by rw [HPB.out] at h; cases h.1))
    go_wp2
    go_ret
    exact ⟨ret_int HR.out.symm, E1.out⟩
  | true =>
    obtain ⟨y0, y1, -, -⟩ := blk2 B1.out
    go_wp2_with (fail)
    refine (l6Uses_any _ ars ps _ (HP.out.ext E1.out) HPB.out).mono ?_
    rintro e w2 ⟨⟨q, c2, rfl, hu⟩, hE2⟩
    have hM := insM_120 HPB.out
    obtain ⟨M, hMM⟩ : ∃ M, (insM ps).length = M := ⟨_, rfl⟩
    rw [hMM] at hM hu ⊢
    have HMM : Hid ((usesM ars ps).length = M) := Lib.hid (by rw [usesM_len, hMM])
    have HU := Lib.hid hu; have E2 := Lib.hid (E1.out.trans hE2)
    clear hMM hE2 y0 y1 hu
    by_cases h0 : a < 0
    · have hb : decide (a < 0) = true := by simpa using h0
      have HR : Hid (ans = 0) := Lib.hid (by rw [← HANS.out]; exact depB_no (fun h => by omega))
      go_wp2
      go_ret
      exact ⟨ret_int HR.out.symm, E2.out⟩
    · have hb : decide (a < 0) = false := by simpa using h0
      by_cases h1 : b ≤ a
      · have hb1 : decide (b ≤ a) = true := by simpa using h1
        have HR : Hid (ans = 0) := Lib.hid (by rw [← HANS.out]; exact depB_no (fun h => by omega))
        go_wp2
        go_ret
        exact ⟨ret_int HR.out.symm, E2.out⟩
      · have hb1 : decide (b ≤ a) = false := by simpa using h1
        by_cases h2 : (M : Int) ≤ b
        · have hb2 : decide ((M : Int) ≤ b) = true := by simpa using h2
          have HR : Hid (ans = 0) := Lib.hid (by rw [← HANS.out]; exact depB_no (fun h => by rw [HMM.out] at h; omega))
          go_wp2
          go_ret
          exact ⟨ret_int HR.out.symm, E2.out⟩
        · have hb2 : decide ((M : Int) ≤ b) = false := by simpa using h2
          obtain ⟨i, rfl⟩ : ∃ i : Nat, a = i := ⟨a.toNat, by omega⟩
          obtain ⟨j, rfl⟩ : ∃ j : Nat, b = j := ⟨b.toNat, by omega⟩
          obtain ⟨x, hx⟩ := get_some (xs := usesM ars ps) (k := i) (by rw [HMM.out]; omega)
          obtain ⟨y, hy⟩ := get_some (xs := usesM ars ps) (k := j) (by rw [HMM.out]; omega)
          obtain ⟨o, r, rk, rfl, hol, x0, x1, hrx⟩ := HU.out.elem hx
          obtain ⟨o', s, sk, ho', -, z0, z1, hry⟩ := HU.out.elem hy
          obtain rfl : o = o' := by cases ho'; rfl
          have HR : Hid (kindB x y = ans) := Lib.hid (by rw [← HANS.out]; exact (depB_yes HPB.out (by omega) hx hy).symm)
          obtain ⟨lx, hlx⟩ : ∃ n, x.1.length = n := ⟨_, rfl⟩
          obtain ⟨ly, hly⟩ : ∃ n, y.1.length = n := ⟨_, rfl⟩
          rw [hlx] at x0 hrx; rw [hly] at z0 hry
          have HX := Lib.hid hrx; have HY := Lib.hid hry; have HLX := Lib.hid hlx; have HLY := Lib.hid hly
          have hb3 : decide (j ≤ i) = false := by simp; omega
          have hb4 : decide (M ≤ j) = false := by simp; omega
          have hiI : (i : Int) < (M : Int) := by omega
          have hjI : (j : Int) < (M : Int) := by omega
          clear hx hy hrx hry hlx hly ho' h0 h1
          go_wp2_with (fail)
          go_region_held3 (fun W => W.cell? ⟨o, i * 2, none⟩ = some (.slice r lx rk) ∧ W.cell? ⟨o, i * 2 + 1, none⟩ = some (.int .i64 x.2) ∧ W.cell? ⟨o, j * 2, none⟩ = some (.slice s ly sk) ∧ W.cell? ⟨o, j * 2 + 1, none⟩ = some (.int .i64 y.2))
            (first | exact ⟨x0, x1, z0, z1⟩ | exact ⟨g3.keep x0, g3.keep x1, g3.keep z0, g3.keep z1⟩ | fail)
            (first | (go_at_call 90; (with_reducible refine (l6Kinds_any r s lx ly rk sk x y _ HLX.out HLY.out (IntsAt.ext (IntsOwn.at HX.out) (Ext.refl w2).drew) (IntsAt.ext (IntsOwn.at HY.out) (Ext.refl w2).drew)).mono ?_); rw [HR.out]; rintro e w3 ⟨rfl, hE3⟩; have g3 := (Ext.refl w2).drew.trans hE3) | fail)
          have E3 := Lib.hid (E2.out.trans g3)
          clear g3 x0 x1 z0 z1
          go_wp2
          go_ret
          exact ⟨rfl, E3.out⟩

-- the program
theorem isIdx {xs : List Int} {x : Int} {k : Nat} (hy : xs[k]? = some x) : decide (x ∈ xs) = true := decide_eq_true (List.mem_of_getElem? hy)
set_option maxRecDepth 100000 in
set_option maxHeartbeats 1000000 in
theorem slicesIndex_any (p : Option Addr) (n c : Nat) (xs : List Int) (x : Int) (w : World) (hn : xs.length = n) (hs : IntsAt w (.slice p n c) xs) :
    Calls Tryz.prog 164 #[.slice p n c, .int .i64 x] w fun e w' => (∃ k : Int, e = .returned (.int .i64 k) ∧ decide (0 ≤ k) = decide (x ∈ xs)) ∧ Ext w w' := by
  obtain ⟨hm, hc⟩ := hs.cl
  have HN := Lib.hid hn; have HC := Lib.hid hc
  clear hn hc hs
  obtain ⟨ans, hans⟩ : ∃ a, decide (x ∈ xs) = a := ⟨_, rfl⟩
  rw [hans]
  have HANS := Lib.hid hans; clear hans
  go_enter Tryz.func164, Tryz.ntmps164
  go_wp2
  go_loopw [8] (fun i wr => ∃ k : Nat, k ≤ n ∧ i = .int .i64 k ∧ (∀ y ∈ xs.take k, y ≠ x) ∧ Ext w wr) (fun i _ => n - (intOf i).toNat)
  case atStart => exact ⟨0, by omega, rfl, by simp, Ext.refl w⟩
  case round =>
    obtain ⟨k, hk, rfl, hne, hE⟩ := hrel
    have HNE := Lib.hid hne; have HE := Lib.hid hE
    clear hne hE
    by_cases hlt : k < n
    · obtain ⟨y, hy⟩ := get_some (xs := xs) (k := k) (by rw [HN.out]; exact hlt)
      obtain ⟨b, off, rfl, hcell⟩ := HC.out k y hy
      have hcl := HE.out.keep hcell
      have HY := Lib.hid hy
      clear hy hcell
      by_cases h0 : y = x
      · have hb : (x == y) = true := by simp [h0]
        have HR : Hid (ans = true) := Lib.hid (by rw [← HANS.out, ← h0]; exact decide_eq_true (List.mem_of_getElem? HY.out))
        clear h0
        go_wp2
        go_ret
        exact ⟨⟨(k : Int), rfl, by rw [HR.out]; simp⟩, HE.out⟩
      · have hb : (x == y) = false := by simp; exact fun h => h0 h.symm
        have HNX := Lib.hid (ne_next HY.out HNE.out h0)
        clear h0
        go_wp2
        go_roundw
        case rel => exact ⟨k + 1, by omega, by go_num, HNX.out, HE.out⟩
        case measure => simp [intOf]; omega
    · obtain rfl : k = n := by omega
      have HR : Hid (ans = false) := Lib.hid (by rw [← HANS.out]; exact has_not (by rw [HN.out]; omega) HNE.out)
      go_wp2
      go_ret
      exact ⟨⟨-1, rfl, by rw [HR.out]; rfl⟩, HE.out⟩
theorem contains_any (p : Option Addr) (n c : Nat) (xs : List Int) (x : Int) (w : World) (hn : xs.length = n) (hs : IntsAt w (.slice p n c) xs) :
    Calls Tryz.prog 134 #[.slice p n c, .int .i64 x] w fun e w' => e = .returned (.bool (decide (x ∈ xs))) ∧ Ext w w' := by
  go_enter Tryz.func134, Tryz.ntmps134
  go_wp2_with (fail)
  refine (slicesIndex_any p n c xs x _ hn hs).mono ?_
  rintro e w1 ⟨⟨k, rfl, hk⟩, hE⟩
  obtain ⟨ans, hans⟩ : ∃ a, decide (x ∈ xs) = a := ⟨_, rfl⟩
  rw [hans] at hk
  have HANS := Lib.hid hans; clear hans
  go_wp2
  go_ret
  exact ⟨ret_bool HANS.out.symm, hE⟩
theorem kindsWith_any (k d : Int) (r : Int) (b : Bool) (w : World) (hk : k ∈ [0, 1, 2, 3]) (hd : d ∈ [1, 2, 4]) (hr : r = if b then k + d else k) (hkd : k < d) :
    Calls Tryz.prog 133 #[.int .i64 k, .int .i64 d, .bool b] w fun e w' => e = .returned (.int .i64 r) ∧ w' = w := by
  subst hr
  cases b with
  | false =>
    go_enter Tryz.func133, Tryz.ntmps133
    go_wp2
    go_ret
    exact ⟨rfl, rfl⟩
  | true =>
    simp only [List.mem_cons, List.not_mem_nil, or_false] at hk hd
    rcases hd with rfl | rfl | rfl <;> rcases hk with rfl | rfl | rfl | rfl <;> first
      | (exfalso; omega)
      | (go_enter Tryz.func133, Tryz.ntmps133
         go_wp2
         go_ret
         exact ⟨rfl, rfl⟩)
end Go.Proofs.YtclgbnilfipobaaGreat
