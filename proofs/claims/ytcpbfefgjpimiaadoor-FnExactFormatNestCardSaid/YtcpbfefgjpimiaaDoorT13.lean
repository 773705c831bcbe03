/- The text of a nest: the program's. No statement is proved here. -/
import Derived.Test.YtcpbfefgjpimiaaDoorT11
import Derived.Test.YtcpbfefgjpimiaaDoorT12
import Derived.Test.YtcpbfefgjpimiaaDoorN6
namespace Go.Proofs.YtcpbfefgjpimiaaDoor
open Go.RowKit

def nestF (ls : List Lp) : List UInt8 := if nestB ls = true then nestT ls else []
theorem side_of {zs : List Aff} {d : Int} (h : sideB zs d = true) : SideV zs ∧ 1 ≤ zs.length := by
  simp only [sideB, Bool.and_eq_true, decide_eq_true_eq, List.all_eq_true, boundB] at h
  exact ⟨⟨h.1.2, fun a ha => (h.2 a ha).1⟩, h.1.1⟩
theorem nest_sides {ls : List Lp} (h : nestB ls = true) : ls.length ≤ 4 ∧ ∀ l ∈ ls, (SideV l.1 ∧ SideV l.2) ∧ 1 ≤ l.1.length ∧ 1 ≤ l.2.length := by
  simp only [nestB, Bool.and_eq_true, decide_eq_true_eq, List.all_eq_true] at h
  refine ⟨h.1, fun l hl => ?_⟩
  obtain ⟨i, hi⟩ := List.mem_iff_getElem?.1 hl
  have h2 := h.2 i (by rw [List.mem_range]; exact (List.getElem?_eq_some_iff.1 hi).1)
  rw [hi] at h2
  simp only [loopB, Bool.and_eq_true] at h2
  exact ⟨⟨(side_of h2.1).1, (side_of h2.2).1⟩, (side_of h2.1).2, (side_of h2.2).2⟩

set_option maxRecDepth 100000 in
set_option maxHeartbeats 1000000 in
theorem loopText_any (u v : Value) (l : Lp) (w : World) (hu : AffsAt w u l.1) (hv : AffsAt w v l.2) (h1 : SideV l.1) (h2 : SideV l.2) (n1 : 1 ≤ l.1.length) (n2 : 1 ≤ l.2.length) (ht : Tab w) :
    Calls Tryd.prog 57 #[.agg #[u, v]] w fun e w' => e = .returned (.string ⟨(lpT l).toArray⟩) ∧ Ext w w' := by
  obtain ⟨p, c, rfl, -⟩ := hu.form
  obtain ⟨p', c', rfl, -⟩ := hv.form
  obtain ⟨S, hS⟩ : ∃ S, sideT l.1 = S := ⟨_, rfl⟩
  obtain ⟨T, hT⟩ : ∃ T, sideT l.2 = T := ⟨_, rfl⟩
  have b1 := h1.len
  have b2 := h2.len
  have HF : Hid (lpT l = [102, 111, 114, 32] ++ S ++ [32] ++ T ++ [10]) := Lib.hid (by rw [lpT, hS, hT])
  have HC0 : Hid (∀ W, Ext w W → Calls Tryd.prog 75 #[.slice p l.1.length c] W fun e w' => e = .returned (.string ⟨S.toArray⟩) ∧ Ext W w') := Lib.hid (by rw [← hS]; exact fun W hW => formatBounds_any _ l.1 W (hu.ext hW) n1 (by have := h1.1; omega) h1.2 (ht.ext hW))
  have HC1 : Hid (∀ W, Ext w W → Calls Tryd.prog 75 #[.slice p' l.2.length c'] W fun e w' => e = .returned (.string ⟨T.toArray⟩) ∧ Ext W w') := Lib.hid (by rw [← hT]; exact fun W hW => formatBounds_any _ l.2 W (hv.ext hW) n2 (by have := h2.1; omega) h2.2 (ht.ext hW))
  rw [hS] at b1; rw [hT] at b2
  clear hu hv h1 h2 n1 n2 ht hS hT
  have B0 : Hid ((w.alloc (.cells #[.slice p l.1.length c, .slice p' l.2.length c'] 83)).heap[w.heap.size]? = some (.cells #[.slice p l.1.length c, .slice p' l.2.length c'] 83 (0, 0))) := Lib.hid (blk_at rfl)
  have E0 : Hid (Ext w (w.alloc (.cells #[.slice p l.1.length c, .slice p' l.2.length c'] 83))) := Lib.hid ((Ext.refl w).alloc _)
  go_enter Tryd.func57, Tryd.ntmps57
  go_wp2_with (fail)
  generalize w.alloc (.cells #[.slice p l.1.length c, .slice p' l.2.length c'] 83) = W0 at *
  generalize w.heap.size = g at *
  obtain ⟨y0, y1, -, -⟩ := blk2 B0.out
  have n1 : ¬ 9223372036854775807 < 4 + S.length := by omega
  have n2 : ¬ 9223372036854775803 < S.length := by omega
  have n3 : ¬ 9223372036854775807 < 4 + S.length + 1 := by omega
  have n4 : ¬ 9223372036854775806 < 4 + S.length := by omega
  have n5 : ¬ 9223372036854775807 < 4 + S.length + 1 + T.length := by omega
  have n6 : ¬ 9223372036854775807 < 4 + S.length + 1 + T.length + 1 := by omega
  have n7 : ¬ 9223372036854775806 < 4 + S.length + 1 + T.length := by omega
  go_region_held3 (fun W' => W'.cell? ⟨g, 0, none⟩ = some (.slice p l.1.length c) ∧ W'.cell? ⟨g, 1, none⟩ = some (.slice p' l.2.length c'))
    (first | exact ⟨y0, y1⟩ | exact ⟨g1.keep y0, g1.keep y1⟩ | exact ⟨g2.keep y0, g2.keep y1⟩ | fail)
    (first
      | (go_at_call 75; (with_reducible refine (HC0.out _ (E0.out.trans (Ext.refl W0).drew)).mono ?_); rintro e x1 ⟨rfl, hx1⟩; have g1 : Ext W0 x1 := (Ext.refl W0).drew.trans hx1)
      | (go_at_call 75; (with_reducible refine (HC1.out _ (E0.out.trans g1)).mono ?_); rintro e x2 ⟨rfl, hx2⟩; have g2 : Ext W0 x2 := g1.trans hx2)
      | fail)
  have HE2 := Lib.hid (E0.out.trans g2)
  clear g1 g2 hx1 hx2 y0 y1 n1 n2 n3 n4 n5 n6 n7
  go_wp2
  go_ret
  exact ⟨by rw [HF.out]; simp only [str_app, List.append_assoc]; rfl, HE2.out⟩

set_option maxRecDepth 100000 in
set_option maxHeartbeats 1000000 in
theorem FormatNest_any (p : Option Addr) (n c : Nat) (ls : List Lp) (w : World) (hn : ls.length = n) (hs : LoopsAt w (.slice p n c) ls) (ht : Tab w) :
    Calls Tryd.prog 24 #[.slice p n c] w fun e w' => e = .returned (.string ⟨(nestF ls).toArray⟩) ∧ Ext w w' := by
  have HS := Lib.hid hs; have HN := Lib.hid hn; have HT := Lib.hid ht; clear hs ht
  cases hv : nestB ls with
  | false =>
    have HF : Hid (nestF ls = []) := Lib.hid (by simp [nestF, hv])
    have HV := Lib.hid hv; clear hv hn
    go_enter Tryd.func24, Tryd.ntmps24
    go_wp2_with (fail)
    refine (NestValid_any p n c ls _ HN.out HS.out).mono ?_
    rw [HV.out]
    rintro e w1 ⟨rfl, hE⟩
    have E1 := Lib.hid hE; clear hE
    go_wp2
    go_ret
    exact ⟨by rw [HF.out]; rfl, E1.out⟩
  | true =>
    have HF : Hid (nestF ls = nestT ls) := Lib.hid (by simp [nestF, hv])
    obtain ⟨h4, hsd⟩ := nest_sides hv
    rw [hn] at h4
    have HSD := Lib.hid hsd
    have HV := Lib.hid hv; clear hv hn hsd
    go_enter Tryd.func24, Tryd.ntmps24
    go_wp2_with (fail)
    refine (NestValid_any p n c ls _ HN.out HS.out).mono ?_
    rw [HV.out]
    rintro e w1 ⟨rfl, hE⟩
    have E1 := Lib.hid hE; clear hE
    go_wp2
    obtain ⟨W0, hW0⟩ : ∃ W0, w1.alloc (.cells #[.pointer none, .slice none 0 0] 87) = W0 := ⟨_, rfl⟩
    have E0 : Hid (Ext w W0) := Lib.hid (by rw [← hW0]; exact E1.out.alloc _)
    have D0 : Hid (Bd w1.heap.size w1.heap.size [] W0) := Lib.hid (by rw [← hW0]; exact Lib.fresh_isBuilder 87 5 w1)
    have hs1 := E1.out.size_le
    rw [hW0]
    clear hW0
    generalize w1.heap.size = B at *
    go_loopw [11] (fun i wr => ∃ j : Nat, j ≤ n ∧ i = .int .i64 j ∧ Bd B B (nestT (ls.take j)) wr ∧ Below B W0 wr) (fun i _ => n - (intOf i).toNat)
    case atStart => exact ⟨0, by omega, rfl, D0.out, Below.refl _ _⟩
    case round =>
      obtain ⟨j, hj, rfl, hbd, hbel⟩ := hrel
      have HBE := Lib.hid hbel
      have EW : Hid (Ext w wr) := Lib.hid (Below.trans E0.out (Below.mono hbel (by omega)))
      have hlen := nestT_len (ls := ls.take j) (fun z hz => (HSD.out z (List.mem_of_mem_take hz)).1)
      have hlt2 : (ls.take j).length = j := by rw [List.length_take, HN.out]; omega
      rw [hlt2] at hlen
      obtain ⟨R, hR⟩ : ∃ R, nestT (ls.take j) = R := ⟨_, rfl⟩
      rw [hR] at hlen hbd
      have hR3 : R.length ≤ 10600 := by omega
      have HRR := Lib.hid hR; have HBD := Lib.hid hbd
      clear hbd hbel hlen hlt2 hR
      by_cases hlt : j < n
      · obtain ⟨l, hl⟩ := get_some (xs := ls) (k := j) (by rw [HN.out]; exact hlt)
        have hvl := HSD.out l (List.mem_of_getElem? hl)
        obtain ⟨b, off, q, m, q', m', rfl, c0, c1, hb, hr, hr'⟩ := (HS.out.ext EW.out).elem hl
        have HF2 : Hid (nestT (ls.take (j + 1)) = R ++ lpT l) := Lib.hid (by rw [nestT_next hl, HRR.out])
        have h1 := hvl.1.1.len
        have h2 := hvl.1.2.len
        have hll : (lpT l).length ≤ 106 := by
          have e2 : (lpT l).length = (sideT l.1).length + (sideT l.2).length + 6 := by simp [lpT]; omega
          omega
        have HC : Hid (∀ W, Ext wr W → Calls Tryd.prog 57 #[.agg #[.slice q l.1.length m, .slice q' l.2.length m']] W fun e w' => e = .returned (.string ⟨(lpT l).toArray⟩) ∧ Ext W w') := Lib.hid (fun W hW => loopText_any _ _ l W (hr.ext hW) (hr'.ext hW) hvl.1.1 hvl.1.2 hvl.2.1 hvl.2.2 (HT.out.ext (EW.out.trans hW)))
        obtain ⟨T, hT⟩ : ∃ T, lpT l = T := ⟨_, rfl⟩
        rw [hT] at hll HC HF2
        clear hl hvl hr hr' h1 h2 hT
        go_wp2_with (fail)
        refine (HC.out _ ((Ext.refl wr).alloc _)).mono ?_
        rintro e w3 ⟨rfl, hE3⟩
        have hE4 : Ext wr w3 := ((Ext.refl wr).alloc _).trans hE3
        have D3 := Lib.hid (HBD.out.ext hE4)
        have hbl := HBD.out.lt
        have F3 : Hid (Below B W0 w3) := Lib.hid (Below.trans HBE.out (Below.mono hE4 (by omega)))
        clear hE3 hE4
        go_wp2_with (fail)
        refine (wString _ _ R T w3 D3.out (by omega) (by omega)).mono ?_
        rintro e w4 ⟨rfl, hb4, be4⟩
        have D4 : Hid (Bd B B (nestT (ls.take (j + 1))) w4) := Lib.hid (by rw [HF2.out]; exact hb4)
        have F4 := Lib.hid (Below.trans F3.out be4)
        clear hb4 be4
        go_wp2
        go_roundw
        case rel => exact ⟨j + 1, by omega, by go_num, D4.out, F4.out⟩
        case measure => simp [intOf]; omega
      · have hjn : j = n := by omega
        have HX : Hid (nestT ls = R) := Lib.hid (by rw [← HRR.out, List.take_of_length_le (by rw [HN.out]; omega)])
        have hbl := HBD.out.lt
        clear hjn
        go_wp2_with (fail)
        refine (Tryd.Builder_String_any _ _ R _ HBD.out (by omega)).mono ?_
        rintro e w2 ⟨rfl, hb⟩
        have E2 : Hid (Ext w w2) := Lib.hid (Below.trans EW.out (Below.mono hb (by omega)))
        clear hb
        go_wp2
        go_ret
        exact ⟨by rw [HF.out, HX.out]; rfl, E2.out⟩

set_option maxRecDepth 100000 in
set_option maxHeartbeats 1000000 in
theorem specFormatNest_any (p : Option Addr) (n c : Nat) (ls : List Lp) (w : World) (hn : ls.length = n) (hs : LoopsAt w (.slice p n c) ls) :
    Calls Tryd.prog 22 #[.slice p n c] w fun e w' => e = .returned (.string ⟨(nestF ls).toArray⟩) ∧ Ext w w' := by
  have HS := Lib.hid hs; have HN := Lib.hid hn; clear hs hn
  cases hv : nestB ls with
  | false =>
    have HF : Hid (nestF ls = []) := Lib.hid (by simp [nestF, hv])
    have HV := Lib.hid hv; clear hv
    go_enter Tryd.func22, Tryd.ntmps22
    go_wp2_with (fail)
    refine (specNestValid_any p n c ls _ HN.out HS.out).mono ?_
    rw [HV.out]
    rintro e w1 ⟨rfl, hE⟩
    have E1 := Lib.hid hE; clear hE
    go_wp2
    go_ret
    exact ⟨by rw [HF.out]; rfl, E1.out⟩
  | true =>
    have HF : Hid (nestF ls = nestT ls) := Lib.hid (by simp [nestF, hv])
    have HSD := Lib.hid (nest_sides hv)
    have HV := Lib.hid hv; clear hv
    go_enter Tryd.func22, Tryd.ntmps22
    go_wp2_with (fail)
    refine (specNestValid_any p n c ls _ HN.out HS.out).mono ?_
    rw [HV.out]
    rintro e w1 ⟨rfl, hE⟩
    have E1 := Lib.hid hE; clear hE
    go_wp2_with (fail)
    refine (l2Text_any _ ls _ (HS.out.ext E1.out) (by have := HSD.out.1; omega) (fun l hl => (HSD.out.2 l hl).1)).mono ?_
    rintro e w2 ⟨rfl, hE⟩
    have E2 := Lib.hid (E1.out.trans hE); clear hE
    go_wp2
    go_ret
    exact ⟨by rw [HF.out]; rfl, E2.out⟩
end Go.Proofs.YtcpbfefgjpimiaaDoor
