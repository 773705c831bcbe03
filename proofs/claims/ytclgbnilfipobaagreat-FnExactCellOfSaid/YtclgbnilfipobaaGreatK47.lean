/- The texts G28, joined. No statement is proved here. -/
import Derived.Test.YtclgbnilfipobaaGreatK22
import Derived.Test.YtclgbnilfipobaaGreatK30
import Derived.Test.YtclgbnilfipobaaGreatK25
/- CellOf of the model and of the program. No statement is proved here. -/
namespace Go.Proofs.YtclgbnilfipobaaGreat
open Go.RowKit Go.Maps

/-- What CellOf answers. -/
def cofB (ars : List Arr) (ps : List Pt) (arr : ByteArray) (subs : List Aff) (pt : List Int) : Int :=
  if (progB ars ps && (accB arr subs 4 && ptB pt)) = true then cellI arr subs pt 0 ars else -1
theorem cofB_no {ars : List Arr} {ps : List Pt} {arr : ByteArray} {subs : List Aff} {pt : List Int} (h : (progB ars ps && (accB arr subs 4 && ptB pt)) = false) : cofB ars ps arr subs pt = -1 := by unfold cofB; rw [h]; rfl
theorem cofB_yes {ars : List Arr} {ps : List Pt} {arr : ByteArray} {subs : List Aff} {pt : List Int} (h1 : progB ars ps = true) (h2 : accB arr subs 4 = true) (h3 : ptB pt = true) : cofB ars ps arr subs pt = cellI arr subs pt 0 ars := by unfold cofB; rw [h1, h2, h3]; rfl
theorem cellI_form {arr : ByteArray} {subs : List Aff} {pt : List Int} : ∀ (l : List Arr) (b : Int), 0 ≤ b → (∀ a ∈ l, arrOkB a = true) → cellI arr subs pt b l = -1 ∨ 0 ≤ cellI arr subs pt b l
  | [], b, _, _ => .inl rfl
  | a :: r, b, hb, h => by
    obtain ⟨-, hdl, hdd⟩ := arrOk_parts (h a (by simp))
    simp only [cellI]
    split
    · split
      · rename_i n ho
        have := (offD_bd hdl hdd ho).1
        exact .inr (by omega)
      · exact .inl rfl
    · have := dimsN_bd hdl hdd
      exact cellI_form r (b + dimsN a.2) (by omega) (fun x hx => h x (by simp [hx]))

set_option linter.unusedVariables false in
set_option linter.unusedSimpArgs false in
set_option maxRecDepth 100000 in
set_option maxHeartbeats 2000000 in
theorem specCellOf_any (v : Value) (ars : List Arr) (ps : List Pt) (arr : ByteArray) (qs : Option Addr) (ns cs : Nat) (subs : List Aff) (pp : Option Addr) (np' cp' : Nat) (pt : List Int) (w : World) (hp : PrR w v ars ps) (ha : arr.size ≤ 9223372036854775807) (hs : AffsAt w (.slice qs ns cs) subs) (hi : IntsAt w (.slice pp np' cp') pt) :
    Calls Tryz.prog 23 #[v, .agg #[.string arr, .slice qs ns cs], .slice pp np' cp'] w fun e w' => e = .returned (.int .i64 (cofB ars ps arr subs pt)) ∧ Ext w w' := by
  obtain ⟨qa, ca, qp, cp, rfl, -, -, hA0, -⟩ := hp.parts
  obtain ⟨na, hna⟩ : ∃ n, ars.length = n := ⟨_, rfl⟩
  obtain ⟨np, hnp⟩ : ∃ n, ps.length = n := ⟨_, rfl⟩
  rw [hna, hnp] at hp ⊢
  rw [hna] at hA0
  have HP := Lib.hid hp; have HSZ := Lib.hid ha; have HS := Lib.hid hs; have HI := Lib.hid hi; have HNA := Lib.hid hna; have HA := Lib.hid hA0
  obtain ⟨ans, hans⟩ : ∃ z, cofB ars ps arr subs pt = z := ⟨_, rfl⟩
  rw [hans]
  obtain ⟨pb, hpb⟩ : ∃ z, progB ars ps = z := ⟨_, rfl⟩
  obtain ⟨ab, hab⟩ : ∃ z, accB arr subs 4 = z := ⟨_, rfl⟩
  obtain ⟨tb, htb⟩ : ∃ z, ptB pt = z := ⟨_, rfl⟩
  have HANS := Lib.hid hans; have HPB := Lib.hid hpb; have HAB := Lib.hid hab; have HTB := Lib.hid htb
  clear hp ha hs hi hna hnp hans hpb hab htb hA0
  go_enter Tryz.func23, Tryz.ntmps23
  go_wp2_with (fail)
  obtain ⟨W0, hW0⟩ : ∃ W0, ((w.alloc (.cells #[.slice qa na ca, .slice qp np cp] 31)).alloc (.cells #[.string arr, .slice qs ns cs] 44)) = W0 := ⟨_, rfl⟩
  have E0 : Hid (Ext w W0) := Lib.hid (by rw [← hW0]; exact ((Ext.refl w).alloc _).alloc _)
  have B0 := Lib.hid (show W0.heap[w.heap.size]? = some (.cells #[.slice qa na ca, .slice qp np cp] 31 (0, 0)) by rw [← hW0]; exact blk_old (blk_at rfl))
  have C0 := Lib.hid (show W0.heap[w.heap.size + 1]? = some (.cells #[.string arr, .slice qs ns cs] 44 (0, 0)) by rw [← hW0]; exact blk_at (by simp))
  try rw [hW0]
  clear hW0
  refine (specProgramValid_any _ ars ps _ (HP.out.ext E0.out)).mono ?_
  rw [HPB.out]
  rintro e w1 ⟨rfl, hE1⟩
  have E1 := Lib.hid (E0.out.trans hE1); have B1 := Lib.hid (hE1.blk B0.out); have C1 := Lib.hid (hE1.blk C0.out)
  clear hE1
  cases pb with
  | false =>
    have HR : Hid (ans = -1) := Lib.hid (by rw [← HANS.out]; exact cofB_no (by rw [HPB.out]; rfl))
    go_wp2
    go_ret
    exact ⟨ret_int HR.out.symm, E1.out⟩
  | true =>
    obtain ⟨y0, y1, -, -⟩ := blk2 C1.out
    go_wp2_with (fail)
    refine (l3Access_any arr _ subs 4 _ HSZ.out (HS.out.ext E1.out)).mono ?_
    rw [HAB.out]
    rintro e w2 ⟨rfl, hE2⟩
    have E2 := Lib.hid (E1.out.trans hE2); have B2 := Lib.hid (hE2.blk B1.out); have C2 := Lib.hid (hE2.blk C1.out)
    clear hE2 y0 y1
    cases ab with
    | false =>
      have HR : Hid (ans = -1) := Lib.hid (by rw [← HANS.out]; exact cofB_no (by rw [HAB.out]; simp))
      go_wp2
      go_ret
      exact ⟨ret_int HR.out.symm, E2.out⟩
    | true =>
      go_wp2_with (fail)
      refine (l1Point_any _ pt _ (HI.out.ext E2.out)).mono ?_
      rw [HTB.out]
      rintro e w3 ⟨rfl, rfl⟩
      cases tb with
      | false =>
        have HR : Hid (ans = -1) := Lib.hid (by rw [← HANS.out]; exact cofB_no (by rw [HTB.out]; simp))
        go_wp2
        go_ret
        exact ⟨ret_int HR.out.symm, E2.out⟩
      | true =>
        have HR : Hid (cellI arr subs pt 0 ars = ans) := Lib.hid (by rw [← HANS.out]; exact (cofB_yes HPB.out HAB.out HTB.out).symm)
        have hacc := HAB.out
        simp only [accB, Bool.and_eq_true, List.all_eq_true, decide_eq_true_eq] at hacc
        obtain ⟨hsv, har, hsl⟩ := hacc
        have hab := progB_arrs HPB.out
        have hn4 : na ≤ 4 := by have := arrs_len hab; rw [HNA.out] at this; exact this
        have hok : ∀ a ∈ ars, arrOkB a = true := by have h := hab; simp only [arrsB, Bool.and_eq_true, List.all_eq_true] at h; exact h.1
        have HC := Lib.hid (l4Cell_any qa na ca ars arr (.slice qs ns cs) (.slice pp np' cp') subs pt w2 HNA.out (HA.out.ext E2.out) hok hn4 har (HS.out.ext E2.out) (fun x hx => by have h := hsv x hx; simp only [boundB, Bool.and_eq_true] at h; exact h.1) hsl (HI.out.ext E2.out) (ptW_of HTB.out))
        obtain ⟨y0, y1, -, -⟩ := blk2 B2.out
        obtain ⟨z0, z1, -, -⟩ := blk2 C2.out
        clear hsv har hsl hab hn4 hok
        go_wp2_with (fail)
        refine (HC.out).mono ?_
        rw [HR.out]
        rintro e w4 ⟨rfl, hE4⟩
        have E4 := Lib.hid (E2.out.trans hE4)
        clear hE4 y0 y1 z0 z1
        go_wp2
        go_ret
        exact ⟨rfl, E4.out⟩

set_option linter.unusedVariables false in
set_option linter.unusedSimpArgs false in
set_option maxRecDepth 100000 in
set_option maxHeartbeats 2000000 in
theorem CellOf_any (v : Value) (ars : List Arr) (ps : List Pt) (arr : ByteArray) (qs : Option Addr) (ns cs : Nat) (subs : List Aff) (pp : Option Addr) (np' cp' : Nat) (pt : List Int) (w : World) (hp : PrR w v ars ps) (ha : arr.size ≤ 9223372036854775807) (hs : AffsAt w (.slice qs ns cs) subs) (hi : IntsAt w (.slice pp np' cp') pt) :
    Calls Tryz.prog 26 #[v, .agg #[.string arr, .slice qs ns cs], .slice pp np' cp'] w fun e w' => e = .returned (.int .i64 (cofB ars ps arr subs pt)) ∧ Ext w w' := by
  obtain ⟨qa, ca, qp, cp, rfl, -, -, hA0, hP0⟩ := hp.parts
  have HSZ := Lib.hid ha; have HS := Lib.hid hs; have HI := Lib.hid hi; have HA := Lib.hid hA0; have HPS := Lib.hid hP0
  obtain ⟨ans, hans⟩ : ∃ z, cofB ars ps arr subs pt = z := ⟨_, rfl⟩
  rw [hans]
  obtain ⟨pb, hpb⟩ : ∃ z, progB ars ps = z := ⟨_, rfl⟩
  obtain ⟨ab, hab⟩ : ∃ z, accB arr subs 4 = z := ⟨_, rfl⟩
  obtain ⟨tb, htb⟩ : ∃ z, ptB pt = z := ⟨_, rfl⟩
  have HANS := Lib.hid hans; have HPB := Lib.hid hpb; have HAB := Lib.hid hab; have HTB := Lib.hid htb
  clear hp ha hs hi hans hpb hab htb hA0 hP0
  go_enter Tryz.func26, Tryz.ntmps26
  go_wp2_with (fail)
  obtain ⟨W0, hW0⟩ : ∃ W0, ((w.alloc (.cells #[.slice qa ars.length ca, .slice qp ps.length cp] 31)).alloc (.cells #[.string arr, .slice qs ns cs] 44)) = W0 := ⟨_, rfl⟩
  have E0 : Hid (Ext w W0) := Lib.hid (by rw [← hW0]; exact ((Ext.refl w).alloc _).alloc _)
  have C0 := Lib.hid (show W0.heap[w.heap.size + 1]? = some (.cells #[.string arr, .slice qs ns cs] 44 (0, 0)) by rw [← hW0]; exact blk_at (by simp))
  try rw [hW0]
  clear hW0
  refine (programOf_any qa qp _ ca _ cp ars ps _ rfl rfl (HA.out.ext E0.out) (HPS.out.ext E0.out)).mono ?_
  rw [HPB.out]
  rintro e w1 ⟨⟨v, rfl, h0, h1⟩, hE⟩
  have hform : ∃ mo T q1 n1 c1 q2 M c2, v = .agg #[.map mo, .int .i64 T, .slice q1 n1 c1, .slice q2 M c2] ∧ (pb = true → ∃ Bm D, mo = some Bm ∧ w1.ownsMap Tryz.prog 9 rawE Bm 4 D ∧ MapIs W0 D ars) := by
    cases pb with
    | false => exact ⟨_, _, _, _, _, _, _, _, h0 rfl, fun h => (by cases h)⟩
    | true =>
      obtain ⟨Bm, D, q1, c1, q2, c2, rfl, -, hm, hmi, -, -⟩ := h1 rfl
      exact ⟨_, _, _, _, _, _, _, _, rfl, fun _ => ⟨Bm, D, rfl, hm, hmi⟩⟩
  obtain ⟨mo, T, q1, n1, c1, q2, M, c2, rfl, hmap⟩ := hform
  have HM := Lib.hid hmap; have HE01 := Lib.hid hE
  obtain ⟨w2, hw2⟩ : ∃ w2, w1.alloc (.cells #[.map mo, .int .i64 T, .slice q1 n1 c1, .slice q2 M c2] 91) = w2 := ⟨_, rfl⟩
  have E12 : Hid (Ext w1 w2) := Lib.hid (by rw [← hw2]; exact (Ext.refl w1).alloc _)
  have B2 := Lib.hid (show w2.heap[w1.heap.size]? = some (.cells #[.map mo, .int .i64 T, .slice q1 n1 c1, .slice q2 M c2] 91 (0, 0)) by rw [← hw2]; exact blk_at rfl)
  have C1 := hE.blk C0.out
  have hlC := lt_of_block C1
  obtain ⟨y0, y1, -, -⟩ := blk2 C1
  have HW2 := Lib.hid hw2
  have E1 := Lib.hid (E0.out.trans hE)
  clear hw2 h0 h1 hE hmap
  go_wp2_with (fail)
  rw [HW2.out]
  refine (elementOf_any arr _ subs 4 _ HSZ.out (HS.out.ext (E1.out.trans E12.out))).mono ?_
  rw [HAB.out]
  rintro e w3 ⟨⟨a', p', n', c', rfl, hel⟩, hE3⟩
  have HEL := Lib.hid hel
  have E3 := Lib.hid ((E1.out.trans E12.out).trans hE3); have B3 := Lib.hid (hE3.blk B2.out); have E13 := Lib.hid (E12.out.trans hE3)
  obtain ⟨w4, hw4⟩ : ∃ w4, w3.alloc (.cells #[.string a', .slice p' n' c'] 103) = w4 := ⟨_, rfl⟩
  have E34 : Hid (Ext w3 w4) := Lib.hid (by rw [← hw4]; exact (Ext.refl w3).alloc _)
  have C4 := Lib.hid (show w4.heap[w3.heap.size]? = some (.cells #[.string a', .slice p' n' c'] 103 (0, 0)) by rw [← hw4]; exact blk_at rfl)
  have HW4 := Lib.hid hw4
  have B4 := Lib.hid (E34.out.blk B3.out)
  clear hw4 hel hE3 y0 y1 hlC C1
  by_cases hok : pb = true ∧ ab = true
  · obtain ⟨rfl, rfl⟩ := hok
    go_wp2_with (fail)
    rw [HW4.out]
    refine (pointValid_any _ pt _ (HI.out.ext (E3.out.trans E34.out))).mono ?_
    rw [HTB.out]
    rintro e w5 ⟨rfl, rfl⟩
    cases tb with
    | false =>
      have HR : Hid (ans = -1) := Lib.hid (by rw [← HANS.out]; exact cofB_no (by rw [HTB.out]; simp))
      go_wp2
      go_ret
      exact ⟨ret_int HR.out.symm, E3.out.trans E34.out⟩
    | true =>
      obtain ⟨Bm, D, rfl, hm, hmi⟩ := HM.out (by trivial)
      obtain ⟨rfl, hlo⟩ := HEL.out (by trivial)
      have har : arrsB ars = true := progB_arrs HPB.out
      have hcl := Lib.hid (cell_any ars a' (.slice p' n' c') (.slice pp np' cp') subs pt T Bm _ 4 D W0 w4 har ((HE01.out.trans E13.out).trans E34.out) hmi (hm.kept ((E13.out.trans E34.out).grownBy none) (by simp)) HSZ.out (hlo.ext E34.out) (HI.out.ext (E3.out.trans E34.out)) HTB.out)
      have hok : ∀ a ∈ ars, arrOkB a = true := by have h := har; simp only [arrsB, Bool.and_eq_true, List.all_eq_true] at h; exact h.1
      have HF := Lib.hid (cellI_form (arr := a') (subs := subs) (pt := pt) ars 0 (Int.le_refl 0) hok)
      have HR : Hid (cellI a' subs pt 0 ars = ans) := Lib.hid (by rw [← HANS.out]; exact (cofB_yes HPB.out HAB.out HTB.out).symm)
      obtain ⟨y0, y1, y2, y3, -⟩ := blk4f B4.out
      obtain ⟨z0, z1, -, -⟩ := blk2 C4.out
      clear hm hmi hlo har hok
      go_wp2_with (fail)
      refine (hcl.out).mono ?_
      rw [HR.out]
      rw [HR.out] at HF
      rintro e w6 ⟨rfl, hE6⟩
      have E6 := Lib.hid ((E3.out.trans E34.out).trans hE6)
      clear hE6 y0 y1 y2 y3 z0 z1
      by_cases h0 : 0 ≤ ans
      · have hb : celB ans = true := decide_eq_true h0
        have hv : celV ans = ans := if_neg (by omega)
        rw [hb, hv]
        clear hb hv
        go_wp2
        go_ret
        exact ⟨rfl, E6.out⟩
      · have hb : celB ans = false := decide_eq_false h0
        have hm1 : Hid (ans = -1) := Lib.hid (HF.out.resolve_right h0)
        rw [hb]
        obtain ⟨cv, hcv⟩ : ∃ cv, celV ans = cv := ⟨_, rfl⟩
        rw [hcv]
        clear hb hcv
        go_wp2
        go_ret
        exact ⟨ret_int hm1.out.symm, E6.out⟩
  · have HR : Hid (ans = -1) := Lib.hid (by
      rw [← HANS.out]
      refine cofB_no ?_
      rw [HPB.out, HAB.out]
      cases pb with
      | false => rfl
      | true => cases ab with
        | false => rfl
        | true => exact absurd ⟨rfl, rfl⟩ hok)
    have hok3 : pb = false ∨ (pb = true ∧ ab = false) := by
      cases pb with
      | false => exact .inl rfl
      | true => cases ab with
        | false => exact .inr ⟨rfl, rfl⟩
        | true => exact absurd ⟨rfl, rfl⟩ hok
    clear hok
    rcases hok3 with rfl | ⟨rfl, rfl⟩
    · go_wp2
      go_ret
      exact ⟨ret_int HR.out.symm, by rw [HW4.out]; exact E3.out.trans E34.out⟩
    · go_wp2
      go_ret
      exact ⟨ret_int HR.out.symm, by rw [HW4.out]; exact E3.out.trans E34.out⟩
end Go.Proofs.YtclgbnilfipobaaGreat
