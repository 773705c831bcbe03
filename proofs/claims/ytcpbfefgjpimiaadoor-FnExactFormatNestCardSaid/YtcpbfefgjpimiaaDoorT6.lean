/- The model's text of an expression. No statement is proved here. -/
import Derived.Test.YtcpbfefgjpimiaaDoorT5
import Derived.Test.YtcpbfefgjpimiaaDoorHd
namespace Go.Proofs.YtcpbfefgjpimiaaDoor
open Go.RowKit

theorem tl_ne' (bs : ByteArray) : ∀ (n i : Nat) (r : List UInt8), bs.size - i = n → r ≠ [] → ByteArray.toList.loop bs i r ≠ []
  | 0, i, r, h, hr => by rw [ByteArray.toList.loop.eq_def, if_neg (by omega)]; simpa using hr
  | n + 1, i, r, h, hr => by rw [ByteArray.toList.loop.eq_def, if_pos (by omega)]; exact tl_ne' bs n (i + 1) _ (by omega) (by simp)
theorem toList_nil_iff' {arr : ByteArray} : arr.toList = [] ↔ arr = ⟨#[]⟩ := by
  constructor
  · intro h
    by_cases h0 : 0 < arr.size
    · unfold ByteArray.toList at h
      rw [ByteArray.toList.loop.eq_def, if_pos h0] at h
      exact absurd h (tl_ne' arr _ 1 _ rfl (by simp))
    · obtain ⟨d⟩ := arr
      have : d.size = 0 := by have h1 : (ByteArray.mk d).size = d.size := rfl; omega
      rw [Array.eq_empty_of_size_eq_zero this]
  · rintro rfl
    exact ByteArray.toList_empty
theorem ext_one (m : List UInt8) (c : UInt8) : (ByteArray.mk (c :: m).toArray).extract 0 1 = ⟨#[c]⟩ := by
  apply ByteArray.ext
  simp
theorem ext_rest (m : List UInt8) (c : UInt8) (n : Nat) (hn : n = m.length + 1) : (ByteArray.mk (c :: m).toArray).extract 1 n = ⟨m.toArray⟩ := by
  subst hn
  apply ByteArray.ext
  simp
theorem name_ext (j : Nat) (h : j < 4) : (ByteArray.mk #[105, 106, 107, 108]).extract j (j + 1) = ⟨#[UInt8.ofNat (105 + j)]⟩ := by
  match j, h with
  | 0, _ => decide
  | 1, _ => decide
  | 2, _ => decide
  | 3, _ => decide

theorem name_slice (j : Nat) (h : j < 4) (W : World) : (Instr.slice 9 (.string ⟨#[105, 106, 107, 108]⟩) (some (.int .i64 (j : Int))) (some (.int .i64 ((j : Int) + 1))) none).run Tryd.prog W = .ok (.string ⟨#[UInt8.ofNat (105 + j)]⟩) W := by
  have := run_slice_string (P := Tryd.prog) W 9 ⟨#[105, 106, 107, 108]⟩ .i64 .i64 (j : Int) ((j : Int) + 1) Tryd.underlying9 (by omega) (by omega) (by show (j : Int) + 1 ≤ 4; omega)
  rw [this]
  rw [show ((j : Int) + 1).toNat = j + 1 by omega, show ((j : Int)).toNat = j by omega, name_ext j h]

theorem two_ne (c d : UInt8) (r : List UInt8) : (ByteArray.mk (c :: d :: r).toArray).toList.isEmpty = false := by
  cases h : (ByteArray.mk (c :: d :: r).toArray).toList.isEmpty with
  | false => rfl
  | true =>
    have h1 : (ByteArray.mk (c :: d :: r).toArray).toList = [] := List.isEmpty_iff.1 h
    have h2 := toList_nil_iff'.1 h1
    simp at h2

set_option maxRecDepth 100000 in
set_option maxHeartbeats 600000 in
theorem l1Text_any (s : Value) (a0 a1 a2 a3 k : Int) (w : World) (hs : IntsAt w s [a0, a1, a2, a3]) (hv : affValidB [a0, a1, a2, a3] k = true) :
    Calls Tryd.prog 28 #[.agg #[s, .int .i64 k]] w fun e w' => e = .returned (.string ⟨(txt [a0, a1, a2, a3] k).toArray⟩) ∧ Ext w w' := by
  obtain ⟨b0, b1, b2, b3, he, h0, h1, h2, h3, hk⟩ := valid_four hv
  simp only [List.cons.injEq, and_true] at he
  obtain ⟨rfl, rfl, rfl, rfl⟩ := he
  obtain ⟨bl, off, cap, rfl, c0, c1, c2, c3, hbl⟩ := hs.four
  clear hs hv
  have HXB : Hid (∀ (j : Nat) (x : Int), [a0, a1, a2, a3][j]? = some x → (-9 ≤ x ∧ x ≤ 9) ∧ w.cell? ⟨bl, off + j, none⟩ = some (.int .i64 x)) := Lib.hid (fun j x h => by
    match j, h with
    | 0, h => simp at h; subst h; exact ⟨h0, c0⟩
    | 1, h => simp at h; subst h; exact ⟨h1, c1⟩
    | 2, h => simp at h; subst h; exact ⟨h2, c2⟩
    | 3, h => simp at h; subst h; exact ⟨h3, c3⟩)
  clear h0 h1 h2 h3 c0 c1 c2 c3
  go_enter Tryd.func28, Tryd.ntmps28
  go_wp2
  obtain ⟨W0, hW0⟩ : ∃ W0, w.alloc (.cells #[.slice (some ⟨bl, off, none⟩) 4 cap, .int .i64 k] 27) = W0 := ⟨_, rfl⟩
  have E0 : Hid (Ext w W0) := Lib.hid (by rw [← hW0]; exact (Ext.refl w).alloc _)
  have B0 : Hid (W0.heap[w.heap.size]? = some (.cells #[.slice (some ⟨bl, off, none⟩) 4 cap, .int .i64 k] 27 (0, 0))) := Lib.hid (by rw [← hW0]; exact blk_at rfl)
  rw [hW0]
  clear hW0
  go_loopw [3, 4] (fun o i wr => ∃ j : Nat, j ≤ 4 ∧ i = .int .i64 j ∧ o = .string ⟨(rawC 0 ([a0, a1, a2, a3].take j)).toArray⟩ ∧ Ext W0 wr) (fun _ i _ => 4 - (intOf i).toNat)
  case atStart => exact ⟨0, by omega, rfl, rfl, Ext.refl _⟩
  case round =>
    obtain ⟨j, hj, rfl, rfl, hE⟩ := hrel
    have HE := Lib.hid hE
    have EW := Lib.hid (E0.out.trans hE)
    have B1 := Lib.hid (hE.blk B0.out)
    have hrl := rawC_len 0 ([a0, a1, a2, a3].take j)
    have htl : ([a0, a1, a2, a3].take j).length ≤ 4 := by rw [List.length_take]; simp; omega
    have HSG := Lib.hid (rawC_sg 0 ([a0, a1, a2, a3].take j))
    obtain ⟨R, hR⟩ : ∃ R, rawC 0 ([a0, a1, a2, a3].take j) = R := ⟨_, rfl⟩
    rw [hR] at hrl ⊢
    have hR20 : R.length ≤ 20 := by omega
    have HR := Lib.hid hR
    clear hE hrl htl hR
    obtain ⟨y0, y1, -, -⟩ := blk2 B1.out
    by_cases hlt : j < 4
    · obtain ⟨x, hx⟩ := get_some (xs := [a0, a1, a2, a3]) (k := j) (by simpa using hlt)
      obtain ⟨hxb, hxc⟩ := HXB.out j x hx
      have cx := EW.out.keep hxc
      have HX := Lib.hid hx; clear hx hxc
      by_cases hx0 : x = 0
      · have hz : (x != 0) = false := by simp [hx0]
        have HN : Hid (rawC 0 ([a0, a1, a2, a3].take (j + 1)) = R) := Lib.hid (by rw [rawC_take HX.out, if_pos hx0, List.append_nil, HR.out])
        clear hx0
        go_wp2
        go_roundw
        case rel => exact ⟨j + 1, by omega, by go_num, by rw [HN.out], HE.out⟩
        case measure => simp [intOf]; omega
      · have hz : (x != 0) = true := by simp [hx0]
        have HN : Hid (rawC 0 ([a0, a1, a2, a3].take (j + 1)) = R ++ tm j x) := Lib.hid (by rw [rawC_take HX.out, if_neg hx0, HR.out])
        have HX0 := Lib.hid hx0
        clear hx0
        obtain ⟨cj, hcj⟩ : ∃ c, UInt8.ofNat (105 + j) = c := ⟨_, rfl⟩
        have hsl := name_slice j hlt
        rw [hcj] at hsl
        have htm := tm_len j x
        have hx99 : -99 ≤ x ∧ x ≤ 99 := by omega
        have HCT : Hid (∀ W, Calls Tryd.prog 60 #[.int .i64 x, .string ⟨#[cj]⟩] W fun e w' => e = .returned (.string ⟨(tm j x).toArray⟩) ∧ Ext W w') := Lib.hid (by rw [← hcj]; exact fun W => l1Term_any j x W HX0.out hx99)
        obtain ⟨t, ht⟩ : ∃ t, tm j x = t := ⟨_, rfl⟩
        rw [ht] at htm HCT HN
        clear hcj ht
        go_wp2
        have hno : ¬ 9223372036854775807 < R.length + t.length := by omega
        have hn0 : 0 ≤ (j : Int) + 1 := by omega
        have hw1 : IntKind.i64.wrap ((j : Int) + 1) = (j : Int) + 1 := by rw [IntKind.wrap_i64]; omega
        refine wp_region_held_drew (S := (fun W => W.cell? ⟨w.heap.size, 0, none⟩ = some (.slice (some ⟨bl, off, none⟩) 4 cap) ∧ W.cell? ⟨bl, off + j, none⟩ = some (.int .i64 x))) (by kernel_rfl) ⟨y0, cx⟩ (fun hHeld => ?_)
        refine wpAnyH_takeD (some 18) (i := 0) (v := ?vka0) rfl (by kernel_rfl) (by kernel_rfl) (by kernel_rfl) (by kernel_rfl) (fun _ _ _ h => h) (Or.inl ⟨by rfl, ?hyka0⟩) (by assumption) ?rka0
        case hyka0 => intro w hSw; (try dsimp only at hSw); go_simp; first | done | with_reducible rfl
        case' rka0 => try simp only [Act.put, List.setIfInBounds_toArray, List.set_cons_zero, List.set_cons_succ]
        refine wpAnyH_takeD (some 19) (i := 1) (v := ?vka1) rfl (by kernel_rfl) (by kernel_rfl) (by kernel_rfl) (by kernel_rfl) (fun _ _ _ h => h) (Or.inl ⟨by rfl, ?hyka1⟩) (by assumption) ?rka1
        case hyka1 => intro w hSw; (try dsimp only at hSw); go_simp; first | done | with_reducible rfl
        case' rka1 => try simp only [Act.put, List.setIfInBounds_toArray, List.set_cons_zero, List.set_cons_succ]
        refine wpAnyH_takeD (some 20) (i := 2) (v := ?vka2) rfl (by kernel_rfl) (by kernel_rfl) (by kernel_rfl) (by kernel_rfl) (fun _ _ _ h => h) (Or.inl ⟨by rfl, ?hyka2⟩) (by assumption) ?rka2
        case hyka2 => intro w hSw; (try dsimp only at hSw); go_simp; first | done | with_reducible rfl
        case' rka2 => try simp only [Act.put, List.setIfInBounds_toArray, List.set_cons_zero, List.set_cons_succ]
        refine wpAnyH_takeD (some 21) (i := 3) (v := ?vka3) rfl (by kernel_rfl) (by kernel_rfl) (by kernel_rfl) (by kernel_rfl) (fun _ _ _ h => h) (Or.inl ⟨by rfl, ?hyka3⟩) (by assumption) ?rka3
        case hyka3 => intro w hSw; (try dsimp only at hSw); go_simp; first | done | with_reducible rfl
        case' rka3 => try simp only [Act.put, List.setIfInBounds_toArray, List.set_cons_zero, List.set_cons_succ]
        refine wpAnyH_takeD (some 22) (i := 4) (v := ?vka4) rfl (by kernel_rfl) (by kernel_rfl) (by kernel_rfl) (by kernel_rfl) (fun _ _ _ h => h) (Or.inl ⟨by rfl, ?hyka4⟩) (by assumption) ?rka4
        case hyka4 => intro w hSw; (try dsimp only at hSw); go_simp; first | done | with_reducible rfl
        case' rka4 => try simp only [Act.put, List.setIfInBounds_toArray, List.set_cons_zero, List.set_cons_succ]
        refine wpAnyH_takeD (some 23) (i := 5) (v := ?vka5) rfl (by kernel_rfl) (by kernel_rfl) (by kernel_rfl) (by kernel_rfl) (fun _ _ _ h => h) (Or.inl ⟨by rfl, ?hyka5⟩) (by assumption) ?rka5
        case hyka5 => intro w hSw; (try dsimp only at hSw); go_simp; first | done | with_reducible rfl
        case' rka5 => try simp only [Act.put, List.setIfInBounds_toArray, List.set_cons_zero, List.set_cons_succ]
        refine wpAnyH_takeD (some 24) (i := 6) (v := ?vka6) rfl (by kernel_rfl) (by kernel_rfl) (by kernel_rfl) (by kernel_rfl) (fun _ _ _ h => h) (Or.inl ⟨by rfl, ?hyka6⟩) (by assumption) ?rka6
        case hyka6 => intro w hSw; (try dsimp only at hSw); go_simp; first | done | with_reducible rfl
        case' rka6 => try simp only [Act.put, List.setIfInBounds_toArray, List.set_cons_zero, List.set_cons_succ]
        refine wpAnyH_takeD (some 25) (i := 7) (v := ?vka7) rfl (by kernel_rfl) (by kernel_rfl) (by kernel_rfl) (by kernel_rfl) (fun _ _ _ h => h) (Or.inl ⟨by rfl, ?hyka7⟩) (by assumption) ?rka7
        case hyka7 => intro w hSw; (try dsimp only at hSw); go_simp; first | done | with_reducible rfl
        case' rka7 => try simp only [Act.put, List.setIfInBounds_toArray, List.set_cons_zero, List.set_cons_succ]
        refine wpAnyH_takeD (some 26) (i := 8) (v := ?vka8) rfl (by kernel_rfl) (by kernel_rfl) (by kernel_rfl) (by kernel_rfl) (fun _ _ _ h => h) (Or.inl ⟨by rfl, ?hyka8⟩) (by assumption) ?rka8
        case hyka8 => intro w hSw; (try dsimp only at hSw); go_simp; first | done | with_reducible rfl
        case' rka8 => try simp only [Act.put, List.setIfInBounds_toArray, List.set_cons_zero, List.set_cons_succ]
        refine wpAnyH_takeD (some 27) (i := 9) (v := ?vka9) rfl (by kernel_rfl) (by kernel_rfl) (by kernel_rfl) (by kernel_rfl) (fun _ _ _ h => h) (Or.inl ⟨by rfl, ?hyka9⟩) (by assumption) ?rka9
        case hyka9 => intro w hSw; (try dsimp only at hSw); go_simp; first | done | with_reducible rfl
        case' rka9 => try simp only [Act.put, List.setIfInBounds_toArray, List.set_cons_zero, List.set_cons_succ]
        refine wpAnyH_ready (rs := [10]) (by kernel_rfl) (by simp) ?_
        refine AllReadyH.cons rfl (fun K9 hK => ?_) AllReadyH.nil
        go_simp
        refine (HCT.out _).mono ?_
        rintro e w3 ⟨rfl, hE3⟩
        have g3 : Ext wr w3 := (Ext.refl wr).drew.trans hE3
        have E3 := Lib.hid (HE.out.trans g3)
        clear hE3
        refine hK.out _ _ ⟨g3.keep y0, g3.keep cx⟩ (fun hHka10 => ?_)
        clear hK K9
        try simp only [Act.put, List.setIfInBounds_toArray, List.set_cons_zero, List.set_cons_succ]
        refine wpAnyH_takeD (some 29) (i := 11) (v := ?vka11) rfl (by kernel_rfl) (by kernel_rfl) (by kernel_rfl) (by kernel_rfl) (fun _ _ _ h => h) (Or.inl ⟨by rfl, ?hyka11⟩) (by assumption) ?rka11
        case hyka11 => intro w hSw; (try dsimp only at hSw); go_simp; first | done | with_reducible rfl
        case' rka11 => try simp only [Act.put, List.setIfInBounds_toArray, List.set_cons_zero, List.set_cons_succ]
        refine wpAnyH_takeD (some 3) (i := 12) (v := ?vka12) rfl (by kernel_rfl) (by kernel_rfl) (by kernel_rfl) (by kernel_rfl) (fun _ _ _ h => h) (Or.inl ⟨by rfl, ?hyka12⟩) (by assumption) ?rka12
        case hyka12 => intro w hSw; (try dsimp only at hSw); go_simp; first | done | with_reducible rfl
        case' rka12 => try simp only [Act.put, List.setIfInBounds_toArray, List.set_cons_zero, List.set_cons_succ]
        refine wpAnyH_done (by kernel_rfl) ?_ _
        clear hw1 hn0
        go_wp2
        go_roundw
        case rel => exact ⟨j + 1, by omega, by go_num, by rw [HN.out, ← str_app], E3.out⟩
        case measure => simp [intOf]; omega
    · obtain rfl : j = 4 := by omega
      have htk : [a0, a1, a2, a3].take 4 = [a0, a1, a2, a3] := rfl
      have HRX : Hid (rawC 0 [a0, a1, a2, a3] = R) := Lib.hid (by rw [← htk]; exact HR.out)
      have HSR : Hid (Sg R) := Lib.hid (by rw [← HR.out]; exact HSG.out)
      clear htk HSG HXB hj hlt
      by_cases hk0 : k = 0
      · subst hk0
        have HRAW : Hid (raw [a0, a1, a2, a3] 0 = R) := Lib.hid (by unfold raw; rw [if_pos rfl, List.append_nil]; exact HRX.out)
        rcases HSR.out with rfl | ⟨c, d, r, rfl, hc⟩
        · have HX : Hid (txt [a0, a1, a2, a3] 0 = [48]) := Lib.hid (by unfold txt; rw [HRAW.out, if_pos rfl])
          go_wp2
          go_ret
          exact ⟨by rw [HX.out]; rfl, EW.out⟩
        · have HX : Hid (txt [a0, a1, a2, a3] 0 = strip (c :: d :: r)) := Lib.hid (by unfold txt; rw [HRAW.out, if_neg (by simp)])
          obtain ⟨M, hM⟩ : ∃ M, ByteArray.mk (c :: d :: r).toArray = M := ⟨_, rfl⟩
          have hne := two_ne c d r
          have hx1 := ext_one (d :: r) c
          have hms : M.size = r.length + 2 := by rw [← hM]; simp [ByteArray.size]
          have hx2 := ext_rest (d :: r) c M.size (by rw [hms]; simp)
          have hmb : M.size ≤ 30 := by rw [hms]; simp at hR20; omega
          have hma : 2 ≤ M.size := by omega
          rw [hM] at hne hx1 hx2
          have HM := Lib.hid hM
          clear hms
          rw [hM]
          rcases hc with rfl | rfl
          · have HF : Hid (txt [a0, a1, a2, a3] 0 = d :: r) := Lib.hid (by rw [HX.out]; rfl)
            clear hM
            go_wp2
            go_ret
            exact ⟨by rw [HF.out]; rfl, EW.out⟩
          · have HF : Hid (Ending.returned (.string M) = .returned (.string ⟨(txt [a0, a1, a2, a3] 0).toArray⟩)) := Lib.hid (by rw [HX.out, ← HM.out]; rfl)
            clear hM
            go_wp2
            go_ret
            exact ⟨HF.out, EW.out⟩
      · have hkb : (k != 0) = true := by simp [hk0]
        obtain ⟨q, hq⟩ : ∃ q, tc k = q := ⟨_, rfl⟩
        have HKT : Hid (∀ W, Calls Tryd.prog 60 #[.int .i64 k, .string ⟨#[]⟩] W fun e w' => e = .returned (.string ⟨q.toArray⟩) ∧ Ext W w') := Lib.hid (by rw [← hq]; exact fun W => l1Term_const k W hk)
        have hql : q.length ≤ 3 := by rw [← hq]; have := (dg_len k.natAbs).2; simp only [tc, List.length_cons]; omega
        have HRAW : Hid (raw [a0, a1, a2, a3] k = R ++ q) := Lib.hid (by unfold raw; rw [if_neg hk0, HRX.out, hq])
        have hsg : Sg (R ++ q) := by
          refine HSR.out.app ?_
          rw [← hq]
          obtain ⟨d, r, h⟩ := dg_cons k.natAbs
          exact .inr ⟨_, d, r, by rw [tc, h], sgn_or k⟩
        have hne0 : R ++ q ≠ [] := by rw [← hq]; simp [tc]
        rcases hsg with h | ⟨c, d, r, hcd, hc⟩
        · exact absurd h hne0
        · have hR20' : (c :: d :: r).length ≤ 23 := by rw [← hcd, List.length_append]; omega
          have HX : Hid (txt [a0, a1, a2, a3] k = strip (c :: d :: r)) := Lib.hid (by unfold txt; rw [HRAW.out, if_neg hne0, hcd])
          have hno : ¬ 9223372036854775807 < R.length + q.length := by omega
          have hsa := str_app R q
          rw [hcd] at hsa
          obtain ⟨M, hM⟩ : ∃ M, ByteArray.mk (c :: d :: r).toArray = M := ⟨_, rfl⟩
          have hne := two_ne c d r
          have hx1 := ext_one (d :: r) c
          have hms : M.size = r.length + 2 := by rw [← hM]; simp [ByteArray.size]
          have hx2 := ext_rest (d :: r) c M.size (by rw [hms]; simp)
          have hmb : M.size ≤ 30 := by rw [hms]; simp at hR20'; omega
          have hma : 2 ≤ M.size := by omega
          rw [hM] at hne hx1 hx2
          have HM := Lib.hid hM
          clear hms
          rw [hM] at hsa
          have HSA := Lib.hid hsa
          clear hM hsa hcd hq hk0 hne0
          go_wp2_with (fail)
          refine (HKT.out _).mono ?_
          rintro e w1 ⟨rfl, hE1⟩
          have EW1 := Lib.hid (EW.out.trans hE1)
          clear hE1 y0 y1
          have hsa := HSA.out
          rcases hc with rfl | rfl
          · have HF : Hid (txt [a0, a1, a2, a3] k = d :: r) := Lib.hid (by rw [HX.out]; rfl)
            go_wp2
            go_ret
            exact ⟨by rw [HF.out]; rfl, EW1.out⟩
          · have HF : Hid (Ending.returned (.string M) = .returned (.string ⟨(txt [a0, a1, a2, a3] k).toArray⟩)) := Lib.hid (by rw [HX.out, ← HM.out]; rfl)
            go_wp2
            go_ret
            exact ⟨HF.out, EW1.out⟩
end Go.Proofs.YtcpbfefgjpimiaaDoor
