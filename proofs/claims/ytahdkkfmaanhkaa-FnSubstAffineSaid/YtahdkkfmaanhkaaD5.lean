/- Draws: the arguments of LexLess. -/
import Derived.Test.YtahdkkfmaanhkaaD4
import Derived.Test.YtahdkkfmaanhkaaM1
namespace Go.Proofs.Ytahdkkfmaanhkaa
open Go.RowKit

/-- A beginning of a row of the call's own, read in a later world where only another row has been written. -/
theorem own_kept {B B' size n m : Nat} {e e' : TypeId} {s' : Nat} {w w' : World} {v u : Value} {xs ys : List Value} (h : w.ownsRow B e size v n xs) (hu : w.ownsRow B' e' s' u m ys) (hv : ∀ b, v.ownBlock = some b → b < B') (hg : w.grownBy w' u.ownBlock) : w'.ownsRow B e size v n xs := by
  refine World.ownsRow.kept h hg ?_
  cases hb : v.ownBlock with
  | none => exact .inl rfl
  | some b => exact .inr (fun e => by have h1 := (hu.lt b e.symm).1; have h2 := hv b hb; omega)

set_option maxHeartbeats 4000000 in
theorem DrawLexLess_any (p : Option Addr) (n c : Nat) (w : World) (hs : BytesAt w p n c) (hlt : ∀ b off, 0 < n → p = some ⟨b, off, none⟩ → b < w.heap.size) :
    Calls Try.prog 25 #[.slice p n c] w fun e w' => (∃ u v xs ys, e = .returned (.tuple #[u, v]) ∧ IntsAt w' u xs ∧ IntsAt w' v ys) ∧ Ext w w' := by
  obtain ⟨i0, hi, hz0, hz1, hz2⟩ := info_parts infoInt
  have HS := Lib.hid hs; have HL := Lib.hid hlt; clear hs hlt
  go_enter Try.func25, Try.ntmps25
  go_wp2_with (fail)
  refine (l16Open_any p n c _ HS.out HL.out).mono ?_
  rintro e w1 ⟨g, rfl, hR, hE⟩
  have H1 := Lib.hid hR; have E1 := Lib.hid hE; clear hR hE
  go_wp2_with (fail)
  refine (l1Place_any w g 0 _ H1.out (by omega)).mono ?_
  rintro e w2 ⟨⟨bp, np, cp, xs, rfl, hxn, hn6, hown⟩, h2, h3⟩
  have hlg2 := h2.lt
  have hg1 := H1.out.lt
  have hbp := hown.lt bp rfl
  have hw1 : w.heap.size ≤ w1.heap.size := E1.out.size_le
  have hwg : w.heap.size ≤ g := by obtain ⟨_, _, _, _, _, _, _, h, _⟩ := H1.out; exact h
  have H2 := Lib.hid h2; have HO := Lib.hid hown; have HXN := Lib.hid hxn
  clear h2 h3 hown hxn H1 E1
  have hnew : (w2.alloc (.cells #[] 3)).ownsRow w2.heap.size 3 1 (.slice (some ⟨w2.heap.size, 0, none⟩) 0 0) 0 [] := World.ownsRow_made w2 #[] 0 (Nat.le_refl _) (Nat.zero_le _) rfl
  have HNew := Lib.hid hnew; clear hnew
  go_wp2_with (at_builtin; refine wpList_append_own _ rfl (.tmp 11) (.tmp 12) 23 rfl w2.heap.size 3 i0 (.int .i64 0) 1 8 Try.underlying23 hi hz0 hz1 hz2 rfl (by decide) (.slice (some ⟨w2.heap.size, 0, none⟩) 0 0) 0 [] rfl HNew.out ⟨bp, 0, none⟩ np cp (xs.map (Value.int .i64)) rfl (by rw [List.length_map, HXN.out]; omega) ?c1 ?c2 ?c3 ?c4 ?c5 ?_)
  case c1 => exact (HO.out.alloc _).cells rfl
  case c2 => intro u hu; simp at hu; obtain ⟨_, _, rfl⟩ := hu; rfl
  case c3 => unfold maxLen; omega
  case c4 => omega
  case c5 => simp
  intro v' w3 hown' hgrow hnil
  have hne : v' ≠ .slice none 0 0 := hnil
  have hR3 : Rd w g 8 w3 := ((H2.out.ext ((Ext.refl w2).alloc _)).beside hgrow (fun b hb => by have := (HNew.out.lt b hb).1; omega)).mono (by omega)
  have hO3 := own_kept (HO.out.alloc (.cells #[] 3)) HNew.out (fun b hb => by have hb' : bp = b := Option.some.inj hb; omega) hgrow
  have hs3 : w2.heap.size + 1 ≤ w3.heap.size := by have := hgrow.size; simp at this; omega
  obtain ⟨bq, cq, rfl, hcq⟩ := own_form' hown' hne
  have hbq := hown'.lt bq rfl
  have H3 := Lib.hid hR3; have HO3 := Lib.hid hO3; have HQ3 := Lib.hid hown'
  clear hnil hne hR3 hO3 hown' hgrow H2 HO HNew
  by_cases hn0 : 0 < np
  · have hd : decide ((0 : Int) < (np : Int)) = true := by simp; omega
    go_wp2_with (fail)
    refine (pick_any w g 8 2 _ H3.out (by omega) (by omega)).mono ?_
    rintro e w4 ⟨⟨r, rfl, -⟩, h4, h5⟩
    have H4 := Lib.hid h4; have HO4 := Lib.hid (row_dr HO3.out h5 hg1); have HQ4 := Lib.hid (row_dr HQ3.out h5 hlg2)
    have hs4 := h5.size
    clear h4 h5 H3 HO3 HQ3
    by_cases hr0 : r = 0
    · subst hr0
      have hnp : (np : Int) ≤ 6 := by omega
      go_wp2_with (fail)
      refine (pick_any w g 9 (np : Int) _ H4.out (by omega) (by omega)).mono ?_
      rintro e w5 ⟨⟨r5, rfl, hr5⟩, h4, h5⟩
      have hr5i : (r5 : Int) < (np : Int) := hr5 (by omega)
      have H5 := Lib.hid h4; have HO5 := Lib.hid (row_dr HO4.out h5 hg1); have HQ5 := Lib.hid (row_dr HQ4.out h5 hlg2)
      have hs5 := h5.size
      clear h4 h5 H4 HO4 HQ4 hr5
      go_wp2_with (fail)
      refine (num_any w g 10 w5.heap.size 4 [0, 1, 2, -1] _ (H5.out.ext ((Ext.refl w5).alloc _)) (by omega) rfl (by omega) (by omega) (blk_at rfl) (by omega)).mono ?_
      rintro e w6 ⟨⟨y, rfl, -⟩, h4, h5⟩
      have H6 := Lib.hid h4; have HO6 := Lib.hid (row_dr (HO5.out.alloc _) h5 hg1); have HQ6 := Lib.hid (row_dr (HQ5.out.alloc _) h5 hlg2)
      have hs6 := h5.size
      clear h4 h5 H5 HO5 HQ5
      have hr5n : r5 < np := by omega
      have hr50 : (0 : Int) ≤ (r5 : Int) := by omega
      have hf := HQ6.out.frozenAt r5
      obtain ⟨u0, hu⟩ : ∃ u, w6.cell? ⟨bq, r5, none⟩ = some u := by rw [HQ6.out.cellAt r5 (by omega)]; exact get_some (by rw [List.length_map, HXN.out]; exact hr5n)
      have hst := (HQ6.out.stored r5 (.int .i64 y)).1
      rw [← List.map_set] at hst
      have hg6 := (HQ6.out.stored r5 (.int .i64 y)).2
      have H7 := Lib.hid (H6.out.beside hg6 (fun b hb => by have hb' : bq = b := Option.some.inj hb; omega))
      have HO7 := Lib.hid (own_kept HO6.out HQ6.out (fun b hb => by have hb' : bp = b := Option.some.inj hb; omega) hg6)
      have HQ7 := Lib.hid hst
      have hys : Hid ((xs.set r5 y).length = np) := by show _ = _; rw [List.length_set]; exact HXN.out
      clear hst hg6 H6 HO6
      go_wp2_with (fail)
      refine (pick_any w g 11 4 _ H7.out (by omega) (by omega)).mono ?_
      rintro e wa ⟨⟨ra, rfl, -⟩, h4, h5⟩
      have HRa := Lib.hid h4; have HPa := Lib.hid (row_dr HO7.out h5 hg1); have HQa := Lib.hid (row_dr HQ7.out h5 hlg2)
      have hsa := h5.size
      have hlga := h4.lt
      clear h4 h5
      by_cases hra : ra = 0
      · subst hra
        go_wp2_with (fail)
        refine (l1Place_any w g (11 + 1) _ HRa.out (by omega)).mono ?_
        rintro e wb ⟨⟨bs, ns, cs, ts, rfl, htn, -, hown⟩, h4, h5⟩
        have HPb := Lib.hid (row_dr HPa.out h5 hg1)
        have HTb := Lib.hid hown; have HTN := Lib.hid htn
        have hE : Ext w wb := by obtain ⟨_, _, _, _, _, _, _, _, h, _⟩ := h4; exact h
        clear h4 h5 hown htn
        go_wp2
        exact bodyPost_ret (v := .tuple #[.slice (some ⟨bp, 0, none⟩) np cp, .slice (some ⟨bs, 0, none⟩) ns cs]) (by simp [results, Try.results25, go_sem]) rfl ⟨⟨_, _, xs, ts, rfl, (IntsOwn.mk HPb.out HXN.out).at, (IntsOwn.mk HTb.out HTN.out).at⟩, hE⟩
      · have hdra : ((ra : Int) == 0) = false := by simp [hra]
        have hE : Ext w wa := by obtain ⟨_, _, _, _, _, _, _, _, h, _⟩ := HRa.out; exact h
        go_wp2
        exact bodyPost_ret (v := .tuple #[.slice (some ⟨bp, 0, none⟩) np cp, .slice (some ⟨bq, 0, none⟩) np cq]) (by simp [results, Try.results25, go_sem]) rfl ⟨⟨_, _, xs, (xs.set r5 y), rfl, (IntsOwn.mk HPa.out HXN.out).at, (IntsOwn.mk HQa.out hys.out).at⟩, hE⟩
    · have hdr : ((r : Int) == 0) = false := by simp [hr0]
      go_wp2_with (fail)
      refine (pick_any w g 9 4 _ H4.out (by omega) (by omega)).mono ?_
      rintro e wa ⟨⟨ra, rfl, -⟩, h4, h5⟩
      have HRa := Lib.hid h4; have HPa := Lib.hid (row_dr HO4.out h5 hg1); have HQa := Lib.hid (row_dr HQ4.out h5 hlg2)
      have hsa := h5.size
      have hlga := h4.lt
      clear h4 h5
      by_cases hra : ra = 0
      · subst hra
        go_wp2_with (fail)
        refine (l1Place_any w g (9 + 1) _ HRa.out (by omega)).mono ?_
        rintro e wb ⟨⟨bs, ns, cs, ts, rfl, htn, -, hown⟩, h4, h5⟩
        have HPb := Lib.hid (row_dr HPa.out h5 hg1)
        have HTb := Lib.hid hown; have HTN := Lib.hid htn
        have hE : Ext w wb := by obtain ⟨_, _, _, _, _, _, _, _, h, _⟩ := h4; exact h
        clear h4 h5 hown htn
        go_wp2
        exact bodyPost_ret (v := .tuple #[.slice (some ⟨bp, 0, none⟩) np cp, .slice (some ⟨bs, 0, none⟩) ns cs]) (by simp [results, Try.results25, go_sem]) rfl ⟨⟨_, _, xs, ts, rfl, (IntsOwn.mk HPb.out HXN.out).at, (IntsOwn.mk HTb.out HTN.out).at⟩, hE⟩
      · have hdra : ((ra : Int) == 0) = false := by simp [hra]
        have hE : Ext w wa := by obtain ⟨_, _, _, _, _, _, _, _, h, _⟩ := HRa.out; exact h
        go_wp2
        exact bodyPost_ret (v := .tuple #[.slice (some ⟨bp, 0, none⟩) np cp, .slice (some ⟨bq, 0, none⟩) np cq]) (by simp [results, Try.results25, go_sem]) rfl ⟨⟨_, _, xs, xs, rfl, (IntsOwn.mk HPa.out HXN.out).at, (IntsOwn.mk HQa.out HXN.out).at⟩, hE⟩
  ·   have hd : decide ((0 : Int) < (np : Int)) = false := by simp; omega
      go_wp2_with (fail)
      refine (pick_any w g 8 4 _ H3.out (by omega) (by omega)).mono ?_
      rintro e wa ⟨⟨ra, rfl, -⟩, h4, h5⟩
      have HRa := Lib.hid h4; have HPa := Lib.hid (row_dr HO3.out h5 hg1); have HQa := Lib.hid (row_dr HQ3.out h5 hlg2)
      have hsa := h5.size
      have hlga := h4.lt
      clear h4 h5
      by_cases hra : ra = 0
      · subst hra
        go_wp2_with (fail)
        refine (l1Place_any w g (8 + 1) _ HRa.out (by omega)).mono ?_
        rintro e wb ⟨⟨bs, ns, cs, ts, rfl, htn, -, hown⟩, h4, h5⟩
        have HPb := Lib.hid (row_dr HPa.out h5 hg1)
        have HTb := Lib.hid hown; have HTN := Lib.hid htn
        have hE : Ext w wb := by obtain ⟨_, _, _, _, _, _, _, _, h, _⟩ := h4; exact h
        clear h4 h5 hown htn
        go_wp2
        exact bodyPost_ret (v := .tuple #[.slice (some ⟨bp, 0, none⟩) np cp, .slice (some ⟨bs, 0, none⟩) ns cs]) (by simp [results, Try.results25, go_sem]) rfl ⟨⟨_, _, xs, ts, rfl, (IntsOwn.mk HPb.out HXN.out).at, (IntsOwn.mk HTb.out HTN.out).at⟩, hE⟩
      · have hdra : ((ra : Int) == 0) = false := by simp [hra]
        have hE : Ext w wa := by obtain ⟨_, _, _, _, _, _, _, _, h, _⟩ := HRa.out; exact h
        go_wp2
        exact bodyPost_ret (v := .tuple #[.slice (some ⟨bp, 0, none⟩) np cp, .slice (some ⟨bq, 0, none⟩) np cq]) (by simp [results, Try.results25, go_sem]) rfl ⟨⟨_, _, xs, xs, rfl, (IntsOwn.mk HPa.out HXN.out).at, (IntsOwn.mk HQa.out HXN.out).at⟩, hE⟩
end Go.Proofs.Ytahdkkfmaanhkaa
