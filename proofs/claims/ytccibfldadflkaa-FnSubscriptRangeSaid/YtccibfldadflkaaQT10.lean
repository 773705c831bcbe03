/- The texts N6, joined. No statement is proved here. -/
import Derived.Test.YtccibfldadflkaaQT09
/- Contracts: validity of nests. -/
namespace Go.Proofs.Ytccibfldadflkaa
open Go.RowKit

/-- The nest is valid. -/
def nestB (ls : List Lp) : Bool := decide (ls.length ≤ 4) && (List.range ls.length).all (fun i => match ls[i]? with | some l => loopB l i | none => true)
theorem nestB_iff {ls : List Lp} : nestB ls = true ↔ ls.length ≤ 4 ∧ ∀ (i : Nat) (l : Lp), ls[i]? = some l → loopB l i = true := by
  simp only [nestB, Bool.and_eq_true, decide_eq_true_eq, List.all_eq_true, List.mem_range]
  refine and_congr_right fun _ => ⟨fun h i l hi => ?_, fun h i hi => ?_⟩
  · have := h i (List.getElem?_eq_some_iff.1 hi).1
    rw [hi] at this; exact this
  · obtain ⟨l, hl⟩ := get_some (xs := ls) (k := i) hi
    rw [hl]; exact h i l hl
theorem nestB_no {ls : List Lp} {i : Nat} {l : Lp} (hi : ls[i]? = some l) (h : loopB l i = false) : nestB ls = false := by
  cases hb : nestB ls with
  | false => rfl
  | true => rw [(nestB_iff.1 hb).2 i l hi] at h; cases h
theorem nestB_len {ls : List Lp} (h : ¬ ls.length ≤ 4) : nestB ls = false := by
  cases hb : nestB ls with
  | false => rfl
  | true => exact absurd (nestB_iff.1 hb).1 h

set_option maxHeartbeats 2000000 in
theorem specNestValid_any (p : Option Addr) (n c : Nat) (ls : List Lp) (w : World) (hn : ls.length = n) (hs : LoopsAt w (.slice p n c) ls) :
    Calls Try.prog 66 #[.slice p n c] w fun e w' => e = .returned (.bool (nestB ls)) ∧ Ext w w' := by
  have hm : n ≤ 9223372036854775807 := by obtain ⟨_, _, hv, hm, _⟩ := hs; rw [← hn]; exact hm
  have HS := Lib.hid hs; have HN := Lib.hid hn; clear hs hn
  by_cases h4 : n ≤ 4
  · have hb4 : decide ((n : Int) ≤ 4) = true := by simp; omega
    go_enter Try.func66, Try.ntmps66
    go_wp2
    go_loopw [3] (fun i wr => ∃ k : Nat, k ≤ n ∧ i = .int .i64 k ∧ (∀ (i : Nat) (l : Lp), i < k → ls[i]? = some l → loopB l i = true) ∧ Ext w wr) (fun i _ => n - (intOf i).toNat)
    case atStart => exact ⟨0, by omega, rfl, fun i l h => absurd h (by omega), Ext.refl w⟩
    case round =>
      obtain ⟨k, hk, rfl, hall, hE⟩ := hrel
      have HA := Lib.hid hall; clear hall
      by_cases hlt : k < n
      · obtain ⟨x, hx⟩ := get_some (xs := ls) (k := k) (by rw [HN.out]; exact hlt)
        obtain ⟨b, off, q, m, q', m', rfl, c0, c1, hb, hr, hr'⟩ := (HS.out.ext hE).elem hx
        have HX := Lib.hid hx; have HR := Lib.hid hr; have HR' := Lib.hid hr'; clear hx hr hr'
        cases h1 : sideB x.1 k with
        | false =>
          have H1 := Lib.hid h1; clear h1
          go_wp2_with (fail)
          refine (l2Side_any _ _ _ x.1 k _ rfl HR.out).mono ?_
          rw [H1.out]
          rintro e w1 ⟨rfl, hE1⟩
          go_wp2
          go_ret
          exact ⟨ret_bool (nestB_no HX.out (by simp [loopB, H1.out])).symm, hE.trans hE1⟩
        | true =>
          have H1 := Lib.hid h1; clear h1
          cases h2 : sideB x.2 k with
          | false =>
            have H2 := Lib.hid h2; clear h2
            go_wp2_with (fail)
            refine (l2Side_any _ _ _ x.1 k _ rfl HR.out).mono ?_
            rw [H1.out]
            rintro e w1 ⟨rfl, hE1⟩
            replace c0 := hE1.keep c0
            replace c1 := hE1.keep c1
            go_wp2_with (fail)
            refine (l2Side_any _ _ _ x.2 k _ rfl (HR'.out.ext hE1)).mono ?_
            rw [H2.out]
            rintro e w2 ⟨rfl, hE2⟩
            clear c0 c1
            go_wp2
            go_ret
            exact ⟨ret_bool (nestB_no HX.out (by simp [loopB, H2.out])).symm, (hE.trans hE1).trans hE2⟩
          | true =>
            have H2 := Lib.hid h2; clear h2
            go_wp2_with (fail)
            refine (l2Side_any _ _ _ x.1 k _ rfl HR.out).mono ?_
            rw [H1.out]
            rintro e w1 ⟨rfl, hE1⟩
            replace c0 := hE1.keep c0
            replace c1 := hE1.keep c1
            go_wp2_with (fail)
            refine (l2Side_any _ _ _ x.2 k _ rfl (HR'.out.ext hE1)).mono ?_
            rw [H2.out]
            rintro e w2 ⟨rfl, hE2⟩
            clear c0 c1
            go_wp2
            go_roundw
            case rel =>
              refine ⟨k + 1, by omega, by go_num, fun i l hi hl => ?_, (hE.trans hE1).trans hE2⟩
              by_cases e : i = k
              · subst e; have hX := HX.out; rw [hl] at hX; cases hX; simp [loopB, H1.out, H2.out]
              · exact HA.out i l (by omega) hl
            case measure => simp [intOf]; omega
      · have e : k = n := by omega
        subst e
        go_wp2
        go_ret
        refine ⟨ret_bool ?_, hE⟩
        have h : nestB ls = true := nestB_iff.2 ⟨by rw [HN.out]; exact h4, fun i l hl => HA.out i l (by rw [← HN.out]; exact (List.getElem?_eq_some_iff.1 hl).1) hl⟩
        rw [h]; try simp; try omega
  · have hb4 : decide ((n : Int) ≤ 4) = false := by simp; omega
    have hb0 : ((0 : Int) < n) := by omega
    go_enter Try.func66, Try.ntmps66
    go_wp2
    go_loopw [3] (fun i wr => i = .int .i64 0 ∧ Ext w wr) (fun i _ => 0)
    case atStart => exact ⟨rfl, Ext.refl w⟩
    case round =>
      obtain ⟨rfl, hE⟩ := hrel
      go_wp2
      go_ret
      exact ⟨ret_bool (nestB_len (by rw [HN.out]; exact h4)).symm, hE⟩

set_option maxHeartbeats 2000000 in
theorem boundsValid_any (p : Option Addr) (n c : Nat) (zs : List Aff) (dd : Int) (w : World) (hn : zs.length = n) (hs : AffsAt w (.slice p n c) zs) :
    Calls Try.prog 99 #[.slice p n c, .int .i64 dd] w fun e w' => e = .returned (.bool (sideB zs dd)) ∧ Ext w w' := by
  have hm : n ≤ 9223372036854775807 := by obtain ⟨_, _, hv, hm, _⟩ := hs; rw [← hn]; exact hm
  have HS := Lib.hid hs; have HN := Lib.hid hn; clear hs hn
  by_cases h1 : 1 ≤ n
  · by_cases h2 : n ≤ 2
    · have hb1 : decide ((n : Int) < 1) = false := by simp; omega
      have hb2 : decide ((2 : Int) < n) = false := by simp; omega
      go_enter Try.func99, Try.ntmps99
      go_wp2
      go_loopw [19] (fun i wr => ∃ k : Nat, k ≤ n ∧ i = .int .i64 k ∧ (zs.take k).all (boundB dd) = true ∧ Ext w wr) (fun i _ => n - (intOf i).toNat)
      case atStart => exact ⟨0, by omega, rfl, by simp, Ext.refl w⟩
      case round =>
        obtain ⟨k, hk, rfl, hall, hE⟩ := hrel
        have HA := Lib.hid hall; clear hall
        by_cases hlt : k < n
        · obtain ⟨x, hx⟩ := get_some (xs := zs) (k := k) (by rw [HN.out]; exact hlt)
          obtain ⟨b, off, q, m, rfl, c0, c1, hb, hr⟩ := (HS.out.ext hE).elem hx
          have HX := Lib.hid hx; have HR := Lib.hid hr; clear hx hr
          cases hv : boundB dd x with
          | false =>
            have HV := Lib.hid hv; clear hv
            go_wp2_with (fail)
            refine (linearWithin_any _ x.1 x.2 dd _ (HR.out.ext ((Ext.refl wr).alloc _))).mono ?_
            rw [show boundB dd (x.1, x.2) = false from HV.out]
            rintro e w1 ⟨⟨_, _, _, _, _, rfl, -⟩, hE1⟩
            have g1 := ((Ext.refl wr).alloc _).trans hE1
            go_wp2
            go_ret
            exact ⟨ret_bool (by simp [sideB, all_false_of (p := boundB dd) HX.out HV.out]), hE.trans (by first | exact g1 | exact g1.alloc _)⟩
          | true =>
            have HV := Lib.hid hv; clear hv
            go_wp2_with (fail)
            refine (linearWithin_any _ x.1 x.2 dd _ (HR.out.ext ((Ext.refl wr).alloc _))).mono ?_
            rw [show boundB dd (x.1, x.2) = true from HV.out]
            rintro e w1 ⟨⟨_, _, _, _, _, rfl, -⟩, hE1⟩
            have g1 := ((Ext.refl wr).alloc _).trans hE1
            clear c0 c1
            go_wp2
            go_roundw
            case rel => exact ⟨k + 1, by omega, by go_num, all_take_next HX.out HA.out HV.out, hE.trans (by first | exact g1 | exact g1.alloc _)⟩
            case measure => simp [intOf]; omega
        · have hal : zs.all (boundB dd) = true := all_take_end (by rw [HN.out]; omega) HA.out
          have HAl := Lib.hid hal; clear hal
          go_wp2
          go_ret
          exact ⟨ret_bool (by simp [sideB, HAl.out, HN.out, h1, h2]), hE⟩
    · have hb1 : decide ((n : Int) < 1) = false := by simp; omega
      have hb2 : decide ((2 : Int) < n) = true := by simp; omega
      go_enter Try.func99, Try.ntmps99
      go_wp2
      go_ret
      exact ⟨ret_bool (by simp [sideB, HN.out, h2]), Ext.refl w⟩
  · have hb1 : decide ((n : Int) < 1) = true := by simp; omega
    go_enter Try.func99, Try.ntmps99
    go_wp2
    go_ret
    exact ⟨ret_bool (by simp [sideB, HN.out, h1]), Ext.refl w⟩

set_option maxHeartbeats 2000000 in
theorem loopValid_any (s t : Value) (x : Lp) (dd : Int) (w : World) (hs : AffsAt w s x.1) (ht : AffsAt w t x.2) :
    Calls Try.prog 78 #[.agg #[s, t], .int .i64 dd] w fun e w' => e = .returned (.bool (loopB x dd)) ∧ Ext w w' := by
  obtain ⟨p, c, rfl, hm⟩ := hs.form
  obtain ⟨q, d, rfl, hm2⟩ := ht.form
  have HS := Lib.hid hs; have HT := Lib.hid ht; clear hs ht
  cases h1 : sideB x.1 dd with
  | false =>
    have H1 := Lib.hid h1; clear h1
    go_enter Try.func78, Try.ntmps78
    go_wp2_with (fail)
    refine (boundsValid_any _ _ _ x.1 dd _ rfl (HS.out.ext ((Ext.refl w).alloc _))).mono ?_
    rw [H1.out]
    rintro e w1 ⟨rfl, hE⟩
    have E1 := ((Ext.refl w).alloc _).trans hE
    go_wp2
    go_ret
    exact ⟨ret_bool (by simp [loopB, H1.out]), E1⟩
  | true =>
    have H1 := Lib.hid h1; clear h1
    go_enter Try.func78, Try.ntmps78
    go_wp2_with (fail)
    refine (boundsValid_any _ _ _ x.1 dd _ rfl (HS.out.ext ((Ext.refl w).alloc _))).mono ?_
    rw [H1.out]
    rintro e w1 ⟨rfl, hE⟩
    have E1 := ((Ext.refl w).alloc _).trans hE
    obtain ⟨d0, d1, -, -⟩ := blk2 (hE.blk (g := w.heap.size) (blk_at rfl))
    clear hE
    go_wp2_with (fail)
    refine (boundsValid_any _ _ _ x.2 dd _ rfl (HT.out.ext E1)).mono ?_
    rintro e w2 ⟨rfl, hE2⟩
    clear d0 d1
    go_wp2
    go_ret
    exact ⟨ret_bool (by simp [loopB, H1.out]), E1.trans hE2⟩

set_option maxHeartbeats 2000000 in
theorem NestValid_any (p : Option Addr) (n c : Nat) (ls : List Lp) (w : World) (hn : ls.length = n) (hs : LoopsAt w (.slice p n c) ls) :
    Calls Try.prog 49 #[.slice p n c] w fun e w' => e = .returned (.bool (nestB ls)) ∧ Ext w w' := by
  have hm : n ≤ 9223372036854775807 := by obtain ⟨_, _, hv, hm, _⟩ := hs; rw [← hn]; exact hm
  have HS := Lib.hid hs; have HN := Lib.hid hn; clear hs hn
  by_cases h4 : n ≤ 4
  · have hb4 : decide ((4 : Int) < n) = false := by simp; omega
    go_enter Try.func49, Try.ntmps49
    go_wp2
    go_loopw [10] (fun i wr => ∃ k : Nat, k ≤ n ∧ i = .int .i64 k ∧ (∀ (i : Nat) (l : Lp), i < k → ls[i]? = some l → loopB l i = true) ∧ Ext w wr) (fun i _ => n - (intOf i).toNat)
    case atStart => exact ⟨0, by omega, rfl, fun i l h => absurd h (by omega), Ext.refl w⟩
    case round =>
      obtain ⟨k, hk, rfl, hall, hE⟩ := hrel
      have HA := Lib.hid hall; clear hall
      by_cases hlt : k < n
      · obtain ⟨x, hx⟩ := get_some (xs := ls) (k := k) (by rw [HN.out]; exact hlt)
        obtain ⟨b, off, q, m, q', m', rfl, c0, c1, hb, hr, hr'⟩ := (HS.out.ext hE).elem hx
        have HX := Lib.hid hx; have HR := Lib.hid hr; have HR' := Lib.hid hr'; clear hx hr hr'
        cases h1 : loopB x k with
        | false =>
          have H1 := Lib.hid h1; clear h1
          go_wp2_with (fail)
          refine (loopValid_any _ _ x k _ (HR.out.ext ((Ext.refl wr).alloc _)) (HR'.out.ext ((Ext.refl wr).alloc _))).mono ?_
          rw [H1.out]
          rintro e w1 ⟨rfl, hE1⟩
          have g1 := ((Ext.refl wr).alloc _).trans hE1
          go_wp2
          go_ret
          exact ⟨ret_bool (nestB_no HX.out H1.out).symm, hE.trans g1⟩
        | true =>
          have H1 := Lib.hid h1; clear h1
          go_wp2_with (fail)
          refine (loopValid_any _ _ x k _ (HR.out.ext ((Ext.refl wr).alloc _)) (HR'.out.ext ((Ext.refl wr).alloc _))).mono ?_
          rw [H1.out]
          rintro e w1 ⟨rfl, hE1⟩
          have g1 := ((Ext.refl wr).alloc _).trans hE1
          clear c0 c1
          go_wp2
          go_roundw
          case rel =>
            refine ⟨k + 1, by omega, by go_num, fun i l hi hl => ?_, hE.trans g1⟩
            by_cases e : i = k
            · subst e; have hX := HX.out; rw [hl] at hX; cases hX; exact H1.out
            · exact HA.out i l (by omega) hl
          case measure => simp [intOf]; omega
      · have e : k = n := by omega
        subst e
        go_wp2
        go_ret
        refine ⟨ret_bool ?_, hE⟩
        exact (nestB_iff.2 ⟨by rw [HN.out]; exact h4, fun i l hl => HA.out i l (by rw [← HN.out]; exact (List.getElem?_eq_some_iff.1 hl).1) hl⟩).symm
  · have hb4 : decide ((4 : Int) < n) = true := by simp; omega
    go_enter Try.func49, Try.ntmps49
    go_wp2
    go_ret
    exact ⟨ret_bool (nestB_len (by rw [HN.out]; exact h4)).symm, Ext.refl w⟩
end Go.Proofs.Ytccibfldadflkaa
