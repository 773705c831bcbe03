/- The texts U3, joined. No statement is proved here. -/
import Derived.Test.YtggpjapmhakklaaK08
import Derived.Test.YtggpjapmhakklaaK11
import Derived.Test.YtggpjapmhakklaaK17
import Derived.LaidEqlPtr
/- The ring of a cache's entries: unlink, recentOf, since, hold, count, drop (by u3.py). No statement is proved here. -/
namespace Go.Proofs.Ytggpjapmhakklaa
open Go.RowKit Go.Maps
attribute [local go_sem] Oper.semAt_some

/-- An entry. -/
def EntB (w : World) (b : Nat) (c : Int) (l e : Nat) : Prop := w.heap[b]? = some (.cells #[.int .i64 c, .pointer (some ⟨l, 0, none⟩), .pointer (some ⟨e, 0, none⟩)] 105 (0, 0))
theorem EntB.set1 {w : World} {b : Nat} {c : Int} {l e : Nat} (h : EntB w b c l e) (v : Nat) : EntB (w.setCell ⟨b, 1, none⟩ (.pointer (some ⟨v, 0, none⟩))) b c v e := by
  have h1 := heap_setCell_same w b 1 _ 105 (.pointer (some ⟨v, 0, none⟩)) h
  simpa [EntB] using h1
theorem EntB.set2 {w : World} {b : Nat} {c : Int} {l e : Nat} (h : EntB w b c l e) (v : Nat) : EntB (w.setCell ⟨b, 2, none⟩ (.pointer (some ⟨v, 0, none⟩))) b c l v := by
  have h1 := heap_setCell_same w b 2 _ 105 (.pointer (some ⟨v, 0, none⟩)) h
  simpa [EntB] using h1
theorem EntB.off {w : World} {b : Nat} {c : Int} {l e : Nat} (h : EntB w b c l e) {g o : Nat} (hne : b ≠ g) (u : Value) : EntB (w.setCell ⟨g, o, none⟩ u) b c l e := blk_off h hne u
theorem EntB.ext {w w' : World} {b : Nat} {c : Int} {l e : Nat} (h : EntB w b c l e) (hE : Ext w w') : EntB w' b c l e := hE.blk h
theorem EntB.lv {D : Nat → Prop} {w w' : World} {b : Nat} {c : Int} {l e : Nat} (h : EntB w b c l e) (hv : Lv D w w') (hn : ¬ D b) : EntB w' b c l e := hv.heap h hn
theorem EntB.cells {w : World} {b : Nat} {c : Int} {l e : Nat} (h : EntB w b c l e) : w.cell? ⟨b, 0, none⟩ = some (.int .i64 c) ∧ w.cell? ⟨b, 1, none⟩ = some (.pointer (some ⟨l, 0, none⟩)) ∧ w.cell? ⟨b, 2, none⟩ = some (.pointer (some ⟨e, 0, none⟩)) ∧ ∀ j, w.frozen? ⟨b, j, none⟩ = false := by
  unfold EntB at h
  simp [World.cell?, World.frozen?, h]
theorem EntB.lt {w : World} {b : Nat} {c : Int} {l e : Nat} (h : EntB w b c l e) : b < w.heap.size := lt_of_block h
/-- Entries whose neighbours two functions tell. -/
def EntsW (w : World) (la er : Nat → Nat) (S : List (Nat × Int)) : Prop := ∀ x ∈ S, EntB w x.1 x.2 (la x.1) (er x.1)
theorem EntsW.set1 {w : World} {la er : Nat → Nat} {S : List (Nat × Int)} (h : EntsW w la er S) (b v : Nat) : EntsW (w.setCell ⟨b, 1, none⟩ (.pointer (some ⟨v, 0, none⟩))) (upN la b v) er S := fun x hx => by
  by_cases e : x.1 = b
  · have h1 := (h x hx).set1 v
    rw [← e, upN_same]; exact h1
  · rw [upN_ne e]; exact (h x hx).off e _
theorem EntsW.set2 {w : World} {la er : Nat → Nat} {S : List (Nat × Int)} (h : EntsW w la er S) (b v : Nat) : EntsW (w.setCell ⟨b, 2, none⟩ (.pointer (some ⟨v, 0, none⟩))) la (upN er b v) S := fun x hx => by
  by_cases e : x.1 = b
  · have h1 := (h x hx).set2 v
    rw [← e, upN_same]; exact h1
  · rw [upN_ne e]; exact (h x hx).off e _
theorem EntsW.ext {w w' : World} {la er : Nat → Nat} {S : List (Nat × Int)} (h : EntsW w la er S) (hE : Ext w w') : EntsW w' la er S := fun x hx => (h x hx).ext hE
/-- A ring: the end e0, and the entries, the one accessed last in front. -/
def RingW (w : World) (e0 : Nat) (L : List (Nat × Int)) : Prop := ∃ la er, Lnk la er e0 e0 (L.map (fun x => x.1)) ∧ (e0 :: L.map (fun x => x.1)).Nodup ∧ EntsW w la er ((e0, 0) :: L)
theorem RingW.ext {w w' : World} {e0 : Nat} {L : List (Nat × Int)} (h : RingW w e0 L) (hE : Ext w w') : RingW w' e0 L := by
  obtain ⟨la, er, h1, h2, h3⟩ := h
  exact ⟨la, er, h1, h2, h3.ext hE⟩
theorem RingW.lv {D : Nat → Prop} {w w' : World} {e0 : Nat} {L : List (Nat × Int)} (h : RingW w e0 L) (hv : Lv D w w') (hn : ∀ b ∈ e0 :: L.map (fun x => x.1), ¬ D b) : RingW w' e0 L := by
  obtain ⟨la, er, h1, h2, h3⟩ := h
  exact ⟨la, er, h1, h2, fun x hx => (h3 x hx).lv hv (hn _ (by
    rcases List.mem_cons.1 hx with rfl | hx
    · simp
    · exact List.mem_cons_of_mem _ (List.mem_map.2 ⟨x, hx, rfl⟩)))⟩
theorem RingW.lt {w : World} {e0 : Nat} {L : List (Nat × Int)} (h : RingW w e0 L) : ∀ b ∈ e0 :: L.map (fun x => x.1), b < w.heap.size := by
  obtain ⟨la, er, h1, h2, h3⟩ := h
  intro b hb
  rcases List.mem_cons.1 hb with rfl | hb
  · exact (h3 _ (List.mem_cons_self ..)).lt
  · obtain ⟨x, hx, rfl⟩ := List.mem_map.1 hb
    exact (h3 x (List.mem_cons_of_mem _ hx)).lt
theorem Lnk.mem_la {la er : Nat → Nat} {z : Nat} : ∀ {a : Nat} {l : List Nat}, Lnk la er a z l → ∀ b, b ∈ l ++ [z] → la b ∈ a :: l
  | a, [], h, b, hb => by simp at hb; subst hb; rw [h.2]; simp
  | a, x :: l, h, b, hb => by
    rcases List.mem_cons.1 hb with rfl | hb
    · rw [h.2.1]; simp
    · exact List.mem_cons_of_mem _ (Lnk.mem_la h.2.2 b hb)
theorem Lnk.mem_er {la er : Nat → Nat} {z : Nat} : ∀ {a : Nat} {l : List Nat}, Lnk la er a z l → ∀ b, b ∈ a :: l → er b ∈ l ++ [z]
  | a, [], h, b, hb => by simp at hb; subst hb; rw [h.1]; simp
  | a, x :: l, h, b, hb => by
    rcases List.mem_cons.1 hb with rfl | hb
    · rw [h.1]; simp
    · exact List.mem_cons_of_mem _ (Lnk.mem_er h.2.2 b hb)
theorem ring_ent {w : World} {la er : Nat → Nat} {e0 : Nat} {L : List (Nat × Int)} (h : EntsW w la er ((e0, 0) :: L)) {b : Nat} (hb : b = e0 ∨ b ∈ L.map (fun x => x.1)) : ∃ c, EntB w b c (la b) (er b) := by
  rcases hb with rfl | hb
  · exact ⟨0, h (b, 0) (List.mem_cons_self ..)⟩
  · obtain ⟨x, hx, rfl⟩ := List.mem_map.1 hb
    exact ⟨x.2, h x (List.mem_cons_of_mem _ hx)⟩

set_option linter.unusedVariables false in
set_option linter.unusedSimpArgs false in
set_option maxRecDepth 100000 in
set_option maxHeartbeats 2000000 in
theorem unlink_any (e0 b : Nat) (c : Int) (l r : List (Nat × Int)) (w : World) (hR : RingW w e0 (l ++ (b, c) :: r)) :
    Calls Try.prog 61 #[.pointer (some ⟨b, 0, none⟩)] w fun e w' => e = .returned (.tuple #[]) ∧ RingW w' e0 (l ++ r) ∧ (∃ x y, EntB w' b c x y) ∧ Lv (fun k => k ∈ e0 :: (l ++ r).map (fun x => x.1)) w w' := by
  obtain ⟨la, er, h1, h2, h3⟩ := hR
  have hm : (l ++ (b, c) :: r).map (fun x => x.1) = l.map (fun x => x.1) ++ b :: r.map (fun x => x.1) := by simp
  have hm2 : (l ++ r).map (fun x => x.1) = l.map (fun x => x.1) ++ r.map (fun x => x.1) := by simp
  rw [hm] at h1 h2
  have hl := Lnk.split.1 h1
  have hUL := Lnk.unlink h1 h2
  have hnd : (e0 :: (l.map (fun x => x.1) ++ r.map (fun x => x.1))).Nodup := by
    refine h2.sublist (List.Sublist.cons_cons _ (List.Sublist.append_left (List.sublist_cons_self _ _) _))
  have hbn : b ≠ e0 ∧ b ∉ l.map (fun x => x.1) ∧ b ∉ r.map (fun x => x.1) := by
    rw [List.nodup_cons, List.nodup_append, List.nodup_cons] at h2
    obtain ⟨a1, a2, ⟨a3, a4⟩, a5⟩ := h2
    simp only [List.mem_append, List.mem_cons, not_or] at a1
    exact ⟨fun e1 => a1.2.1 e1.symm, fun hm => a5 b hm b (by simp) rfl, a3⟩
  have hp := Lnk.mem_la hl.1 b (by simp)
  have hn := Lnk.mem_er hl.2 b (by simp)
  have hpm : la b = e0 ∨ la b ∈ (l ++ r).map (fun x => x.1) := by
    rw [hm2]
    rcases List.mem_cons.1 hp with h | h
    · exact .inl h
    · exact .inr (List.mem_append_left _ h)
  have hnm : er b = e0 ∨ er b ∈ (l ++ r).map (fun x => x.1) := by
    rw [hm2]
    rcases List.mem_append.1 hn with h | h
    · exact .inr (List.mem_append_right _ h)
    · simp at h; exact .inl h
  have hpb : ¬ (b = la b) := fun e => by
    rcases hpm with h | h
    · exact hbn.1 (e.trans h)
    · rw [hm2, ← e] at h; rcases List.mem_append.1 h with h | h; exact hbn.2.1 h; exact hbn.2.2 h
  have hnb : ¬ (b = er b) := fun e => by
    rcases hnm with h | h
    · exact hbn.1 (e.trans h)
    · rw [hm2, ← e] at h; rcases List.mem_append.1 h with h | h; exact hbn.2.1 h; exact hbn.2.2 h
  have hS : EntsW w la er ((e0, 0) :: (l ++ r)) := fun x hx => h3 x (by
    simp only [List.mem_cons, List.mem_append] at hx ⊢
    rcases hx with h | h | h
    · exact .inl h
    · exact .inr (.inl h)
    · exact .inr (.inr (.inr h)))
  have hB : EntB w b c (la b) (er b) := h3 (b, c) (by simp)
  have E0 : Ext w w.drew := (Ext.refl w).drew
  obtain ⟨wd, hwd⟩ : ∃ wd, w.drew = wd := ⟨_, rfl⟩
  rw [hwd] at E0
  have hSd := hS.ext E0; have hBd := hB.ext E0
  obtain ⟨cp, hP⟩ := ring_ent hSd hpm
  have hS1 := hSd.set2 (la b) (er b)
  obtain ⟨cn, hN⟩ := ring_ent hS1 hnm
  have hS2 := hS1.set1 (er b) (la b)
  have hB1 : EntB (wd.setCell ⟨la b, 2, none⟩ (.pointer (some ⟨er b, 0, none⟩))) b c (la b) (er b) := hBd.off hpb _
  have hB2 : EntB ((wd.setCell ⟨la b, 2, none⟩ (.pointer (some ⟨er b, 0, none⟩))).setCell ⟨er b, 1, none⟩ (.pointer (some ⟨la b, 0, none⟩))) b c (la b) (er b) := hB1.off hnb _
  have hLv := ((E0.lv (D := fun _ => False)).trans (lv_set wd (la b) 2 (.pointer (some ⟨er b, 0, none⟩))) (E := fun k => k ∈ e0 :: (l ++ r).map (fun x => x.1)) (fun _ _ h => h.elim) (fun k _ e => by subst e; rcases hpm with h | h; rw [h]; simp; exact List.mem_cons_of_mem _ h)).trans (lv_set _ (er b) 1 (.pointer (some ⟨la b, 0, none⟩))) (E := fun k => k ∈ e0 :: (l ++ r).map (fun x => x.1)) (fun _ _ h => h) (fun k _ e => by subst e; rcases hnm with h | h; rw [h]; simp; exact List.mem_cons_of_mem _ h)
  have HFIN : Hid (RingW ((wd.setCell ⟨la b, 2, none⟩ (.pointer (some ⟨er b, 0, none⟩))).setCell ⟨er b, 1, none⟩ (.pointer (some ⟨la b, 0, none⟩))) e0 (l ++ r) ∧ (∃ x y, EntB ((wd.setCell ⟨la b, 2, none⟩ (.pointer (some ⟨er b, 0, none⟩))).setCell ⟨er b, 1, none⟩ (.pointer (some ⟨la b, 0, none⟩))) b c x y) ∧ Lv (fun k => k ∈ e0 :: (l ++ r).map (fun x => x.1)) w ((wd.setCell ⟨la b, 2, none⟩ (.pointer (some ⟨er b, 0, none⟩))).setCell ⟨er b, 1, none⟩ (.pointer (some ⟨la b, 0, none⟩)))) :=
    Lib.hid ⟨⟨_, _, by rw [hm2]; exact hUL, by rw [hm2]; exact hnd, hS2⟩, ⟨_, _, hB2⟩, hLv⟩
  obtain ⟨-, y1, y2, -⟩ := hBd.cells
  obtain ⟨-, -, p2, pf⟩ := hP.cells
  obtain ⟨-, n1, -, nf⟩ := hN.cells
  have pf2 := pf 2; have nf1 := nf 1
  have HWD := Lib.hid hwd
  clear h1 h2 h3 hl hUL hnd hbn hp hn hpm hnm hS hB E0 hSd hBd hP hS1 hN hS2 hB1 hB2 hLv hm hm2 pf nf hwd
  go_enter Try.func61, Try.ntmps61
  try rw [HWD.out]
  go_wp2_with (fail)
  refine wp_region_last (S := (fun W => W.cell? ⟨b, 1, none⟩ = some (.pointer (some ⟨la b, 0, none⟩)) ∧ W.cell? ⟨b, 2, none⟩ = some (.pointer (some ⟨er b, 0, none⟩)))) (by kernel_rfl) (by rw [HWD.out]; exact ⟨y1, y2⟩) (fun hHeld => ?_)
  rw [HWD.out] at hHeld ⊢
  refine tkL (some 2) 0 ?vu1 rfl (by kernel_rfl) (by kernel_rfl) (fun _ _ _ h => h) (Or.inl ⟨by rfl, ?hyu1⟩) (by assumption) ?ru1
  case hyu1 => intro w hSw; (try dsimp only at hSw); go_simp; first | done | with_reducible rfl
  case' ru1 => try simp only [Act.put, List.setIfInBounds_toArray, List.set_cons_zero, List.set_cons_succ]
  refine tkL (some 3) 1 ?vu2 rfl (by kernel_rfl) (by kernel_rfl) (fun _ _ _ h => h) (Or.inl ⟨by rfl, ?hyu2⟩) (by assumption) ?ru2
  case hyu2 => intro w hSw; (try dsimp only at hSw); go_simp; first | done | with_reducible rfl
  case' ru2 => try simp only [Act.put, List.setIfInBounds_toArray, List.set_cons_zero, List.set_cons_succ]
  refine tkL (some 4) 2 ?vu3 rfl (by kernel_rfl) (by kernel_rfl) (fun _ _ _ h => h) (Or.inl ⟨by rfl, ?hyu3⟩) (by assumption) ?ru3
  case hyu3 => intro w hSw; (try dsimp only at hSw); go_simp; first | done | with_reducible rfl
  case' ru3 => try simp only [Act.put, List.setIfInBounds_toArray, List.set_cons_zero, List.set_cons_succ]
  refine tkL (some 5) 3 ?vu4 rfl (by kernel_rfl) (by kernel_rfl) (fun _ _ _ h => h) (Or.inl ⟨by rfl, ?hyu4⟩) (by assumption) ?ru4
  case hyu4 => intro w hSw; (try dsimp only at hSw); go_simp; first | done | with_reducible rfl
  case' ru4 => try simp only [Act.put, List.setIfInBounds_toArray, List.set_cons_zero, List.set_cons_succ]
  refine tkL (some 6) 4 ?vu5 rfl (by kernel_rfl) (by kernel_rfl) (fun _ _ _ h => h) (Or.inl ⟨by rfl, ?hyu5⟩) (by assumption) ?ru5
  case hyu5 => intro w hSw; (try dsimp only at hSw); go_simp; first | done | with_reducible rfl
  case' ru5 => try simp only [Act.put, List.setIfInBounds_toArray, List.set_cons_zero, List.set_cons_succ]
  refine tkL (some 7) 5 ?vu6 rfl (by kernel_rfl) (by kernel_rfl) (fun _ _ _ h => h) (Or.inl ⟨by rfl, ?hyu6⟩) (by assumption) ?ru6
  case hyu6 => intro w hSw; (try dsimp only at hSw); go_simp; first | done | with_reducible rfl
  case' ru6 => try simp only [Act.put, List.setIfInBounds_toArray, List.set_cons_zero, List.set_cons_succ]
  refine tkL (some 8) 6 ?vu7 rfl (by kernel_rfl) (by kernel_rfl) (fun _ _ _ h => h) (Or.inl ⟨by rfl, ?hyu7⟩) (by assumption) ?ru7
  case hyu7 => intro w hSw; (try dsimp only at hSw); go_simp; first | done | with_reducible rfl
  case' ru7 => try simp only [Act.put, List.setIfInBounds_toArray, List.set_cons_zero, List.set_cons_succ]
  refine tkL (some 9) 7 ?vu8 rfl (by kernel_rfl) (by kernel_rfl) (fun _ _ _ h => h) (Or.inl ⟨by rfl, ?hyu8⟩) (by assumption) ?ru8
  case hyu8 => intro w hSw; (try dsimp only at hSw); go_simp; first | done | with_reducible rfl
  case' ru8 => try simp only [Act.put, List.setIfInBounds_toArray, List.set_cons_zero, List.set_cons_succ]
  refine tkL (some 10) 8 ?vu9 rfl (by kernel_rfl) (by kernel_rfl) (fun _ _ _ h => h) (Or.inl ⟨by rfl, ?hyu9⟩) (by assumption) ?ru9
  case hyu9 => intro w hSw; (try dsimp only at hSw); go_simp; first | done | with_reducible rfl
  case' ru9 => try simp only [Act.put, List.setIfInBounds_toArray, List.set_cons_zero, List.set_cons_succ]
  refine tkL (some 11) 9 ?vu10 rfl (by kernel_rfl) (by kernel_rfl) (fun _ _ _ h => h) (Or.inl ⟨by rfl, ?hyu10⟩) (by assumption) ?ru10
  case hyu10 => intro w hSw; (try dsimp only at hSw); go_simp; first | done | with_reducible rfl
  case' ru10 => try simp only [Act.put, List.setIfInBounds_toArray, List.set_cons_zero, List.set_cons_succ]
  refine tkL (some 12) 10 ?vu11 rfl (by kernel_rfl) (by kernel_rfl) (fun _ _ _ h => h) (Or.inl ⟨by rfl, ?hyu11⟩) (by assumption) ?ru11
  case hyu11 => intro w hSw; (try dsimp only at hSw); go_simp; first | done | with_reducible rfl
  case' ru11 => try simp only [Act.put, List.setIfInBounds_toArray, List.set_cons_zero, List.set_cons_succ]
  refine tkL (some 13) 11 ?vu12 rfl (by kernel_rfl) (by kernel_rfl) (fun _ _ _ h => h) (Or.inl ⟨by rfl, ?hyu12⟩) (by assumption) ?ru12
  case hyu12 => intro w hSw; (try dsimp only at hSw); go_simp; first | done | with_reducible rfl
  case' ru12 => try simp only [Act.put, List.setIfInBounds_toArray, List.set_cons_zero, List.set_cons_succ]
  refine tkL (some 14) 12 ?vu13 rfl (by kernel_rfl) (by kernel_rfl) (fun _ _ _ h => h) (Or.inl ⟨by rfl, ?hyu13⟩) (by assumption) ?ru13
  case hyu13 => intro w hSw; (try dsimp only at hSw); go_simp; first | done | with_reducible rfl
  case' ru13 => try simp only [Act.put, List.setIfInBounds_toArray, List.set_cons_zero, List.set_cons_succ]
  refine tkL (some 15) 13 ?vu14 rfl (by kernel_rfl) (by kernel_rfl) (fun _ _ _ h => h) (Or.inl ⟨by rfl, ?hyu14⟩) (by assumption) ?ru14
  case hyu14 => intro w hSw; (try dsimp only at hSw); go_simp; first | done | with_reducible rfl
  case' ru14 => try simp only [Act.put, List.setIfInBounds_toArray, List.set_cons_zero, List.set_cons_succ]
  refine tkL (some 16) 14 ?vu15 rfl (by kernel_rfl) (by kernel_rfl) (fun _ _ _ h => h) (Or.inl ⟨by rfl, ?hyu15⟩) (by assumption) ?ru15
  case hyu15 => intro w hSw; (try dsimp only at hSw); go_simp; first | done | with_reducible rfl
  case' ru15 => try simp only [Act.put, List.setIfInBounds_toArray, List.set_cons_zero, List.set_cons_succ]
  refine tkL (some 17) 15 ?vu16 rfl (by kernel_rfl) (by kernel_rfl) (fun _ _ _ h => h) (Or.inl ⟨by rfl, ?hyu16⟩) (by assumption) ?ru16
  case hyu16 => intro w hSw; (try dsimp only at hSw); go_simp; first | done | with_reducible rfl
  case' ru16 => try simp only [Act.put, List.setIfInBounds_toArray, List.set_cons_zero, List.set_cons_succ]
  refine tkL (some 18) 16 ?vu17 rfl (by kernel_rfl) (by kernel_rfl) (fun _ _ _ h => h) (Or.inl ⟨by rfl, ?hyu17⟩) (by assumption) ?ru17
  case hyu17 => intro w hSw; (try dsimp only at hSw); go_simp; first | done | with_reducible rfl
  case' ru17 => try simp only [Act.put, List.setIfInBounds_toArray, List.set_cons_zero, List.set_cons_succ]
  refine tkL (some 19) 17 ?vu18 rfl (by kernel_rfl) (by kernel_rfl) (fun _ _ _ h => h) (Or.inl ⟨by rfl, ?hyu18⟩) (by assumption) ?ru18
  case hyu18 => intro w hSw; (try dsimp only at hSw); go_simp; first | done | with_reducible rfl
  case' ru18 => try simp only [Act.put, List.setIfInBounds_toArray, List.set_cons_zero, List.set_cons_succ]
  refine oneL (i := 18) rfl (by kernel_rfl) (fun K9 hK => ?_)
  go_simp
  refine hK.out _ _ ⟨lvCell (lv_set _ _ _ _) y1 hpb, lvCell (lv_set _ _ _ _) y2 hpb⟩ (fun hHu19 => ?_)
  clear hK K9
  try simp only [Act.put, List.setIfInBounds_toArray, List.set_cons_zero, List.set_cons_succ]
  refine tkL (some 20) 19 ?vu20 rfl (by kernel_rfl) (by kernel_rfl) (fun _ _ _ h => h) (Or.inl ⟨by rfl, ?hyu20⟩) (by assumption) ?ru20
  case hyu20 => intro w hSw; (try dsimp only at hSw); go_simp; first | done | with_reducible rfl
  case' ru20 => try simp only [Act.put, List.setIfInBounds_toArray, List.set_cons_zero, List.set_cons_succ]
  refine tkL (some 21) 20 ?vu21 rfl (by kernel_rfl) (by kernel_rfl) (fun _ _ _ h => h) (Or.inl ⟨by rfl, ?hyu21⟩) (by assumption) ?ru21
  case hyu21 => intro w hSw; (try dsimp only at hSw); go_simp; first | done | with_reducible rfl
  case' ru21 => try simp only [Act.put, List.setIfInBounds_toArray, List.set_cons_zero, List.set_cons_succ]
  refine lastL (i := 21) rfl (by kernel_rfl) (by kernel_rfl) (fun K9 hK => ?_)
  go_simp
  refine hK.out _ _ ?_
  clear hK K9
  try simp only [Act.put, List.setIfInBounds_toArray, List.set_cons_zero, List.set_cons_succ]
  go_wp2
  go_end0
  exact ⟨rfl, HFIN.out⟩


theorem undMapE : Try.prog.underlying 58 = some (.map 3 59) := by kernel_rfl
theorem zeroE (w : World) : (zeroValue 59).run Try.prog w = .ok (.pointer none) w := by kernel_rfl
/-- The entry of each cell. -/
def entF (L : List (Nat × Int)) : Int → Option Value := fun c => (L.find? (fun p => decide (p.2 = c))).map (fun p => .pointer (some ⟨p.1, 0, none⟩))
theorem entF_cons (b : Nat) (c : Int) (L : List (Nat × Int)) : entF ((b, c) :: L) = updF (entF L) c (.pointer (some ⟨b, 0, none⟩)) := by
  funext x
  unfold entF updF
  by_cases h : x = c
  · subst h; simp
  · rw [if_neg h, List.find?_cons_of_neg (by simp only [decide_eq_true_eq]; exact fun e => h e.symm)]
/-- A cell is moved to the front. -/
theorem entF_move {l r : List (Nat × Int)} {b : Nat} {c : Int} (hn : ((l ++ (b, c) :: r).map (fun x => x.2)).Nodup) : entF ((b, c) :: (l ++ r)) = entF (l ++ (b, c) :: r) := by
  funext x
  unfold entF
  congr 1
  rw [List.find?_append]
  by_cases h : c = x
  · subst h
    rw [List.find?_cons_of_pos (by simp), List.find?_cons_of_pos (by simp)]
    have : l.find? (fun p => decide (p.2 = c)) = none := by
      rw [List.find?_eq_none]
      intro y hy
      simp only [decide_eq_true_eq]
      rw [List.map_append, List.nodup_append] at hn
      exact fun e => hn.2.2 y.2 (List.mem_map.2 ⟨y, hy, rfl⟩) c (by simp) e
    rw [this]; rfl
  · rw [List.find?_cons_of_neg (by simpa using h), List.find?_cons_of_neg (by simpa using h), List.find?_append]
theorem entF_none {L : List (Nat × Int)} {c : Int} : entF L c = none ↔ c ∉ L.map (fun x => x.2) := by
  unfold entF
  rw [Option.map_eq_none_iff, List.find?_eq_none]
  simp only [decide_eq_true_eq, List.mem_map, not_exists, not_and]
theorem entF_some {L : List (Nat × Int)} {c : Int} (h : c ∈ L.map (fun x => x.2)) : ∃ b l r, L = l ++ (b, c) :: r ∧ entF L c = some (.pointer (some ⟨b, 0, none⟩)) ∧ c ∉ l.map (fun x => x.2) := by
  obtain ⟨y, hy, rfl⟩ := List.mem_map.1 h
  have hs : (L.find? (fun p => decide (p.2 = y.2))).isSome = true := List.find?_isSome.2 ⟨y, hy, by simp⟩
  obtain ⟨z, hz⟩ := Option.isSome_iff_exists.1 hs
  obtain ⟨hz1, l, r, rfl, hz2⟩ := List.find?_eq_some_iff_append.1 hz
  simp only [decide_eq_true_eq] at hz1
  obtain ⟨zb, zc⟩ := z
  dsimp only at hz1
  subst hz1
  refine ⟨zb, l, r, rfl, by unfold entF; rw [hz]; rfl, fun hm => ?_⟩
  obtain ⟨u, hu, e⟩ := List.mem_map.1 hm
  have := hz2 u hu
  simp at this
  exact this e
/-- What a cache that drops the cell used least recently holds. -/
def RecS (w : World) (mb e0 n : Nat) (L : List (Nat × Int)) : Prop := RingW w e0 L ∧ IMc w mb n (entF L) L.length ∧ (L.map (fun x => x.2)).Nodup ∧ ∀ x ∈ L, i64 x.2
theorem RecS.ext {w w' : World} {mb e0 n : Nat} {L : List (Nat × Int)} (h : RecS w mb e0 n L) (hE : Ext w w') : RecS w' mb e0 n L := ⟨h.1.ext hE, h.2.1.kept (hE.grownBy none) (by simp), h.2.2⟩
theorem RecS.lv {D : Nat → Prop} {w w' : World} {mb e0 n : Nat} {L : List (Nat × Int)} (h : RecS w mb e0 n L) (hv : Lv D w w') (hn : ∀ b ∈ mb :: e0 :: L.map (fun x => x.1), ¬ D b) : RecS w' mb e0 n L :=
  ⟨h.1.lv hv (fun b hb => hn b (List.mem_cons_of_mem _ hb)), h.2.1.lv hv (hn mb (by simp)), h.2.2⟩
theorem RecS.lt {w : World} {mb e0 n : Nat} {L : List (Nat × Int)} (h : RecS w mb e0 n L) : ∀ b ∈ mb :: e0 :: L.map (fun x => x.1), b < w.heap.size := fun b hb => by
  rcases List.mem_cons.1 hb with rfl | hb
  · exact h.2.1.lt
  · exact h.1.lt b hb
theorem map_ne_ent {w : World} {mb n k : Nat} {F : Int → Option Value} (h : IMc w mb n F k) {b : Nat} {o : Array Value} {t : TypeId} {z : Nat × Nat} (hb : w.heap[b]? = some (.cells o t z)) : mb ≠ b := by
  rintro rfl
  obtain ⟨D, ⟨es, clock, h1, -⟩, -⟩ := h
  rw [h1] at hb
  cases hb
theorem RecS.ne {w : World} {mb e0 n : Nat} {L : List (Nat × Int)} (h : RecS w mb e0 n L) : mb ∉ e0 :: L.map (fun x => x.1) := fun hm => by
  obtain ⟨⟨la, er, -, -, h3⟩, h4, -⟩ := h
  rcases List.mem_cons.1 hm with e | hm
  · have := h3 (e0, 0) (by simp)
    exact map_ne_ent h4 this e
  · obtain ⟨x, hx, e⟩ := List.mem_map.1 hm
    have := h3 x (List.mem_cons_of_mem _ hx)
    exact map_ne_ent h4 this e.symm

set_option linter.unusedVariables false in
theorem recentOf_any (w : World) : Calls Try.prog 34 #[] w fun e w' => ∃ mb e0, e = .returned (.agg #[.map (some mb), .pointer (some ⟨e0, 0, none⟩)]) ∧ RecS w' mb e0 0 [] ∧ w.heap.size ≤ mb ∧ w.heap.size ≤ e0 ∧ Ext w w' := by
  have hmm := @run_makeMap Try.prog
  go_enter Try.func34, Try.ntmps34
  go_wp2
  clear hmm
  obtain ⟨g, hg⟩ : ∃ g, w.heap.size = g := ⟨_, rfl⟩
  rw [hg]
  obtain ⟨W1, hW1⟩ : ∃ W1, ((w.alloc (.cells #[.map (some (g + 1 + 1)), .pointer (some ⟨g + 1, 0, none⟩)] 61)).alloc (.cells #[.int .i64 0, .pointer (some ⟨g + 1, 0, none⟩), .pointer (some ⟨g + 1, 0, none⟩)] 105)) = W1 := ⟨_, rfl⟩
  have hs1 : W1.heap.size = g + 1 + 1 := by rw [← hW1, ← hg]; simp
  have HE : EntB W1 (g + 1) 0 (g + 1) (g + 1) := by rw [← hW1]; exact blk_at (by simp [hg])
  have HR : W1.heap[g]? = some (.cells #[.map (some (g + 1 + 1)), .pointer (some ⟨g + 1, 0, none⟩)] 61 (0, 0)) := by rw [← hW1]; exact blk_old (blk_at hg.symm)
  have HX : Ext w W1 := by rw [← hW1]; exact ((Ext.refl w).alloc _).alloc _
  have HM : IMc (W1.alloc (.map #[] 0)) (g + 1 + 1) 0 (fun _ => none) 0 := by have h := IMc.made W1; rwa [hs1] at h
  rw [hW1]
  have HX2 : Ext W1 (W1.alloc (.map #[] 0)) := (Ext.refl W1).alloc _
  obtain ⟨r0, r1, -, -⟩ := blk2 (HX2.blk HR)
  refine bodyPost_ret (v := .agg #[.map (some (g + 1 + 1)), .pointer (some ⟨g + 1, 0, none⟩)]) (by simp [results, Try.results34, go_sem, r0, r1]) rfl ?_
  refine ⟨g + 1 + 1, g + 1, rfl, ⟨⟨fun _ => g + 1, fun _ => g + 1, ⟨rfl, rfl⟩, by simp, fun x hx => ?_⟩, HM, by simp, by simp⟩, by omega, by omega, HX.trans HX2⟩
  simp only [List.mem_cons, List.not_mem_nil, or_false] at hx
  subst hx
  exact HE.ext HX2

theorem undEnt : Try.prog.underlying 59 = some (.pointer 105) := by kernel_rfl
theorem szEnt : (Try.prog.info? 105).map (fun i => i.size) = some 3 := by kernel_rfl
theorem neq_same (a : Addr) (w : World) : (binOp .neq 59 (.pointer (some a)) (.pointer (some a))).run Try.prog w = .ok (.bool false) w := by
  obtain ⟨j, hj, -⟩ := Option.map_eq_some_iff.1 szEnt
  have h : ∀ d : Nat, (Op.equalIn (d + 1) 59 (.pointer (some a)) (.pointer (some a))).run Try.prog w = .ok true w := fun d => by
    simp [Op.equalIn, run_underlying undEnt, sizeOf, typeInfo, hj, run_sameAddr_same]
  simp only [binOp]
  simp [Op.equal, Op.maxDepth, h 9999]
theorem neq_other {w : World} {a b : Nat} {ca cb : Array Value} {ta tb : TypeId} (hne : a ≠ b) (ha : w.heap[a]? = some (.cells ca ta (0, 0))) (hb : w.heap[b]? = some (.cells cb tb (0, 0))) :
    (binOp .neq 59 (.pointer (some ⟨a, 0, none⟩)) (.pointer (some ⟨b, 0, none⟩))).run Try.prog w = .ok (.bool true) w := by
  obtain ⟨j, hj, hs⟩ := Option.map_eq_some_iff.1 szEnt
  have hsz : j.size ≠ 0 := by omega
  have h : ∀ d : Nat, (Op.equalIn (d + 1) 59 (.pointer (some ⟨a, 0, none⟩)) (.pointer (some ⟨b, 0, none⟩))).run Try.prog w = .ok false w := fun d => by
    simp [Op.equalIn, run_underlying undEnt, sizeOf, typeInfo, hj, hsz, run_sameAddr_other w (a := ⟨a, 0, none⟩) (b := ⟨b, 0, none⟩) (fun e => hne (by cases e; rfl)) ha hb]
  simp only [binOp]
  simp [Op.equal, Op.maxDepth, h 9999]
theorem ret_i {a b : Int} (h : a = b) : Ending.returned (.int .i64 a) = .returned (.int .i64 b) := by rw [h]
set_option linter.unusedVariables false in
set_option linter.unusedSimpArgs false in
set_option maxRecDepth 100000 in
set_option maxHeartbeats 2000000 in
theorem since_any (mb e0 n : Nat) (L : List (Nat × Int)) (c : Int) (w : World) (hR : RecS w mb e0 n L) (hc : i64 c) (hL : L.length ≤ 1000) :
    Calls Try.prog 36 #[.agg #[.map (some mb), .pointer (some ⟨e0, 0, none⟩)], .int .i64 c] w fun e w' => e = .returned (.int .i64 (sdV c (L.map (fun x => x.2)))) ∧ Ext w w' := by
  obtain ⟨hring, hmap, hnd, -⟩ := hR
  obtain ⟨g0, hg0⟩ : ∃ g, w.heap.size = g := ⟨_, rfl⟩
  obtain ⟨W0, hW0⟩ : ∃ W0, w.alloc (.cells #[.map (some mb), .pointer (some ⟨e0, 0, none⟩)] 61) = W0 := ⟨_, rfl⟩
  have E0 : Ext w W0 := by rw [← hW0]; exact (Ext.refl w).alloc _
  have B0 : W0.heap[g0]? = some (.cells #[.map (some mb), .pointer (some ⟨e0, 0, none⟩)] 61 (0, 0)) := by rw [← hW0]; exact blk_at hg0.symm
  have hlk := (hmap.imp.ext E0).lookOk (T := 58) undMapE (zeroE _) (wfI hc.1 hc.2)
  obtain ⟨r0, r1, -, -⟩ := blk2 B0
  by_cases hin : c ∈ L.map (fun x => x.2)
  · obtain ⟨b, l, r, hL2, hF, hcl⟩ := entF_some hin
    rw [hF] at hlk
    dsimp only [Option.getD_some, Option.isSome_some] at hlk
    have HANS : Hid ((l.length : Int) = sdV c (L.map (fun x => x.2))) := Lib.hid (by
      unfold sdV
      exact (atT_yes hnd (by rw [hL2]; simp) _ (by rw [hL2]; simp)).symm)
    have hll : l.length ≤ 1000 := by rw [hL2] at hL; simp at hL; omega
    obtain ⟨la, er, h1, h2, h3⟩ := hring
    have hm : L.map (fun x => x.1) = l.map (fun x => x.1) ++ b :: r.map (fun x => x.1) := by rw [hL2]; simp
    have hl : Lnk la er e0 b (l.map (fun x => x.1)) := (Lnk.split.1 (hm ▸ h1)).1
    have hl2 : Lnk la er e0 (er b) (l.map (fun x => x.1) ++ [b]) := Lnk.split.2 ⟨hl, ⟨rfl, by have h := (Lnk.split.1 (hm ▸ h1)).2; cases hr : r.map (fun x => x.1) with
      | nil => rw [hr] at h; rw [h.1]; exact h.2
      | cons q t => rw [hr] at h; rw [h.1]; exact h.2.1⟩⟩
    have he0 : e0 ∉ L.map (fun x => x.1) := (List.nodup_cons.1 h2).1
    obtain ⟨K, hK⟩ : ∃ K, l.map (fun x => x.1) ++ [b] = K := ⟨_, rfl⟩
    have hKl : K.length = l.length + 1 := by rw [← hK]; simp
    have HCH : Hid (∀ i, i ≤ l.length → ∃ k, K[i]? = some k ∧ (i = 0 → la k = e0) ∧ (∀ j, i = j + 1 → K[j]? = some (la k) ∧ la k ≠ e0) ∧ ∃ c', EntB W0 k c' (la k) (er k)) := Lib.hid (by
      intro i hi
      obtain ⟨k, hk⟩ := get_some (xs := K) (k := i) (by omega)
      have hmem : ∀ j q, K[j]? = some q → q ∈ L.map (fun x => x.1) := fun j q hq => by
        have h := List.mem_of_getElem? hq
        rw [← hK] at h
        rw [hm]
        rcases List.mem_append.1 h with h | h
        · exact List.mem_append_left _ h
        · simp at h; subst h; simp
      have hb := Lnk.back hl2 i k (by rw [hK]; exact hk)
      refine ⟨k, hk, fun e => by rw [hb, if_pos e], fun j e => ?_, ring_ent (h3.ext E0) (.inr (hmem i k hk))⟩
      subst e
      obtain ⟨q, hq⟩ := get_some (xs := K) (k := j) (by omega)
      have e1 : la k = q := by rw [hb, if_neg (by omega), hK, List.getD_eq_getElem?_getD, show j + 1 - 1 = j by omega, hq]; rfl
      rw [e1]
      exact ⟨hq, fun e => he0 (e ▸ hmem j q hq)⟩)
    have hKb : K[l.length]? = some b := by rw [← hK]; simp
    have HEE := Lib.hid ((h3 (e0, 0) (List.mem_cons_self ..)).ext E0)
    have HKB := Lib.hid hKb; have HE0 := Lib.hid E0; have HB0 := Lib.hid B0
    clear hmap hnd hF hcl h1 h2 h3 hm hl hl2 he0 hK hKl hKb hL2 hin E0 B0
    go_enter Try.func36, Try.ntmps36
    go_wp2
    try rw [hW0]
    try rw [hg0]
    obtain ⟨N, hN⟩ : ∃ N, l.length = N := ⟨_, rfl⟩
    rw [hN] at HANS HCH HKB hll
    clear hW0 hg0 hlk r0 r1 hN
    go_loopw [5, 7] (fun pv cv wr => ∃ (i k : Nat), i ≤ N ∧ pv = .pointer (some ⟨k, 0, none⟩) ∧ K[i]? = some k ∧ cv = .int .i64 ((N - i : Nat) : Int) ∧ Ext W0 wr) (fun pv cv _ => N - (intOf cv).toNat)
    case atStart => exact ⟨N, b, Nat.le_refl _, rfl, HKB.out, by simp, Ext.refl W0⟩
    case round =>
      obtain ⟨i, k, hi, rfl, hk, rfl, hE⟩ := hrel
      obtain ⟨k', hk', a1, a2, c', hent⟩ := HCH.out i hi
      rw [hk] at hk'
      cases hk'
      obtain ⟨-, y1, -, -⟩ := (hent.ext hE).cells
      obtain ⟨r0, r1, -, -⟩ := blk2 (hE.blk HB0.out)
      have HE := Lib.hid hE; have HK := Lib.hid hk
      cases i with
      | zero =>
        have e1 := a1 rfl
        rw [e1] at y1
        clear hent hE hk a1 a2
        have hcmp := neq_same ⟨e0, 0, none⟩ wr.drew
        go_wp2_with (fail)
        go_region
        go_wp2
        go_ret
        exact ⟨ret_i HANS.out, HE0.out.trans (HE.out.trans (Ext.refl wr).drew)⟩
      | succ j =>
        obtain ⟨b1, b2⟩ := a2 j rfl
        obtain ⟨q, hq⟩ : ∃ q, la k = q := ⟨_, rfl⟩
        rw [hq] at y1 b1 b2
        have HB1 := Lib.hid b1
        obtain ⟨kq, hkq, -, -, cq, hq2⟩ := HCH.out j (by omega)
        rw [HB1.out] at hkq
        cases hkq
        have hcmp := neq_other (w := wr.drew) b2 (((hq2.ext hE).ext (Ext.refl wr).drew : EntB _ _ _ _ _)) ((HEE.out.ext hE).ext (Ext.refl wr).drew : EntB _ _ _ _ _)
        clear hq2
        clear hent hE hk a1 a2 b1 hq
        go_wp2_with (fail)
        go_region
        go_wp2
        go_roundw
        case rel => exact ⟨j, q, by omega, rfl, HB1.out, by go_num, HE.out.trans (Ext.refl wr).drew⟩
        case measure => simp [intOf]; omega
  · rw [entF_none.2 hin] at hlk
    dsimp only [Option.getD_none, Option.isSome_none] at hlk
    have HANS : Hid ((-1 : Int) = sdV c (L.map (fun x => x.2))) := Lib.hid (atT_no hin _).symm
    have HE0 := Lib.hid E0
    clear hring hmap hnd hin E0 B0
    go_enter Try.func36, Try.ntmps36
    go_wp2
    go_ret
    try rw [hW0]
    exact ⟨ret_i HANS.out, HE0.out⟩

set_option linter.unusedVariables false in
theorem count_any (mb e0 n : Nat) (L : List (Nat × Int)) (w : World) (hR : RecS w mb e0 n L) :
    Calls Try.prog 162 #[.agg #[.map (some mb), .pointer (some ⟨e0, 0, none⟩)]] w fun e w' => e = .returned (.int .i64 (L.length : Int)) ∧ Ext w w' := by
  obtain ⟨W0, hW0⟩ : ∃ W0, w.alloc (.cells #[.map (some mb), .pointer (some ⟨e0, 0, none⟩)] 61) = W0 := ⟨_, rfl⟩
  have E0 : Ext w W0 := by rw [← hW0]; exact (Ext.refl w).alloc _
  obtain ⟨g0, hg0⟩ : ∃ g, w.heap.size = g := ⟨_, rfl⟩
  have B0 : W0.heap[g0]? = some (.cells #[.map (some mb), .pointer (some ⟨e0, 0, none⟩)] 61 (0, 0)) := by rw [← hW0]; exact blk_at hg0.symm
  obtain ⟨r0, -, -, -⟩ := blk2 B0
  have HE0 := Lib.hid E0
  have hM := hR.2.1.kept (E0.grownBy none) (by simp)
  clear E0 B0
  have hlen : ∀ ty, (Builtin.len_ #[58] ty #[.map (some mb)]).run Try.prog W0 = .ok (.int .i64 (L.length : Int)) W0 := fun ty => hM.len undMapE ty
  go_enter Try.func162, Try.ntmps162
  go_wp2
  go_ret
  exact ⟨rfl, HE0.out⟩
theorem entF_del {l : List (Nat × Int)} {b : Nat} {c : Int} (hn : ((l ++ [(b, c)]).map (fun x => x.2)).Nodup) : delF (entF (l ++ [(b, c)])) c = entF l := by
  have hc : c ∉ l.map (fun x => x.2) := by
    rw [List.map_append, List.nodup_append] at hn
    exact fun hm => hn.2.2 c hm c (by simp) rfl
  funext x
  unfold delF
  by_cases h : x = c
  · subst h; rw [if_pos rfl, entF_none.2 hc]
  · rw [if_neg h]
    unfold entF
    rw [List.find?_append, List.find?_cons_of_neg (by simp only [decide_eq_true_eq]; exact fun e => h e.symm)]
    simp

set_option linter.unusedVariables false in
set_option linter.unusedSimpArgs false in
set_option maxRecDepth 100000 in
set_option maxHeartbeats 2000000 in
theorem drop_any (mb e0 n : Nat) (l : List (Nat × Int)) (b : Nat) (c : Int) (w : World) (hR : RecS w mb e0 n (l ++ [(b, c)])) :
    Calls Try.prog 163 #[.agg #[.map (some mb), .pointer (some ⟨e0, 0, none⟩)]] w fun e w' => e = .returned (.tuple #[]) ∧ RecS w' mb e0 n l ∧ Lv (fun k => k ∈ mb :: e0 :: l.map (fun x => x.1)) w w' := by
  obtain ⟨g0, hg0⟩ : ∃ g, w.heap.size = g := ⟨_, rfl⟩
  obtain ⟨W0, hW0⟩ : ∃ W0, w.alloc (.cells #[.map (some mb), .pointer (some ⟨e0, 0, none⟩)] 61) = W0 := ⟨_, rfl⟩
  have E0 : Ext w W0 := by rw [← hW0]; exact (Ext.refl w).alloc _
  have B0 : W0.heap[g0]? = some (.cells #[.map (some mb), .pointer (some ⟨e0, 0, none⟩)] 61 (0, 0)) := by rw [← hW0]; exact blk_at hg0.symm
  have hR0 := hR.ext E0
  obtain ⟨r0, r1, -, -⟩ := blk2 B0
  obtain ⟨⟨la, er, h1, h2, h3⟩, hM, hnd, hi⟩ := id hR0
  have hlast : la e0 = b := by have := Lnk.last h1; rw [this]; simp
  obtain ⟨-, y1, -, -⟩ := (h3 (e0, 0) (List.mem_cons_self ..)).cells
  dsimp only at y1
  rw [hlast] at y1
  have hlt : ∀ k ∈ e0 :: l.map (fun x => x.1), k < g0 := fun k hk => by rw [← hg0]; exact hR.1.lt k (by simp only [List.map_append, List.mem_cons, List.mem_append] at hk ⊢; rcases hk with h | h; exact .inl h; exact .inr (.inl h))
  have hmlt : mb < g0 := by rw [← hg0]; exact hR.2.1.lt
  have hmne : mb ∉ e0 :: (l ++ [(b, c)]).map (fun x => x.1) := hR0.ne
  have HUL := Lib.hid (unlink_any e0 b c l [] W0 hR0.1)
  have HM := Lib.hid hM; have HND := Lib.hid hnd; have HI := Lib.hid hi; have HB0 := Lib.hid B0; have HE0 := Lib.hid E0; have HLT := Lib.hid hlt; have HNE := Lib.hid hmne
  clear hR hR0 h1 h2 h3 hM hnd hi B0 hlast E0 hlt hmne
  go_enter Try.func163, Try.ntmps163
  go_wp2_with (fail)
  try rw [hW0]
  try rw [hg0]
  refine HUL.out.mono ?_
  rintro e w1 ⟨rfl, hring, ⟨x, y, hent⟩, hlv⟩
  rw [List.append_nil] at hring hlv
  have HB1 := hlv.heap HB0.out (fun h => by have := HLT.out _ h; omega)
  have hM1 := HM.out.lv hlv (fun h => HNE.out (by simp only [List.map_append, List.mem_cons, List.mem_append] at h ⊢; rcases h with h | h; exact .inl h; exact .inr (.inl h)))
  obtain ⟨t0, t1, -, -⟩ := blk2 HB1
  obtain ⟨c0, -, -, -⟩ := hent.cells
  have EX : Ext w1 w1.drew := (Ext.refl w1).drew
  obtain ⟨wd, hwd⟩ : ∃ wd, w1.drew = wd := ⟨_, rfl⟩
  rw [hwd] at EX
  have HWD := Lib.hid hwd
  have s0 := EX.keep t0; have s1 := EX.keep c0
  have hMd := hM1.kept (EX.grownBy none) (by simp)
  have hcc := HI.out (b, c) (by simp)
  dsimp only at hcc
  have hF : ∃ v, entF (l ++ [(b, c)]) c = some v := by
    cases h : entF (l ++ [(b, c)]) c with
    | none => exact absurd (entF_none.1 h) (by simp)
    | some v => exact ⟨v, rfl⟩
  obtain ⟨fv, hfv⟩ := hF
  have HRD := Lib.hid (hring.ext EX); have HLV := Lib.hid (hlv.trans (EX.lv (D := fun _ => False)) (E := fun k => k ∈ mb :: e0 :: l.map (fun x => x.1)) (fun k _ h => List.mem_cons_of_mem _ h) (fun _ _ h => h.elim))
  clear r0 r1 y1 hW0 hwd hring hlv hent HB1 hM1 t0 t1 c0 EX
  go_wp2_with (fail)
  refine wp_region_last (S := (fun W => W.cell? ⟨g0, 0, none⟩ = some (.map (some mb)) ∧ W.cell? ⟨b, 0, none⟩ = some (.int .i64 c))) (by kernel_rfl) (by rw [HWD.out]; exact ⟨s0, s1⟩) (fun hHeld => ?_)
  rw [HWD.out] at hHeld ⊢
  refine tkL (some 10) 0 ?vd1 rfl (by kernel_rfl) (by kernel_rfl) (fun _ _ _ h => h) (Or.inl ⟨by rfl, ?hyd1⟩) (by assumption) ?rd1
  case hyd1 => intro w hSw; (try dsimp only at hSw); go_simp; first | done | with_reducible rfl
  case' rd1 => try simp only [Act.put, List.setIfInBounds_toArray, List.set_cons_zero, List.set_cons_succ]
  refine tkL (some 11) 1 ?vd2 rfl (by kernel_rfl) (by kernel_rfl) (fun _ _ _ h => h) (Or.inl ⟨by rfl, ?hyd2⟩) (by assumption) ?rd2
  case hyd2 => intro w hSw; (try dsimp only at hSw); go_simp; first | done | with_reducible rfl
  case' rd2 => try simp only [Act.put, List.setIfInBounds_toArray, List.set_cons_zero, List.set_cons_succ]
  refine tkL (some 12) 2 ?vd3 rfl (by kernel_rfl) (by kernel_rfl) (fun _ _ _ h => h) (Or.inl ⟨by rfl, ?hyd3⟩) (by assumption) ?rd3
  case hyd3 => intro w hSw; (try dsimp only at hSw); go_simp; first | done | with_reducible rfl
  case' rd3 => try simp only [Act.put, List.setIfInBounds_toArray, List.set_cons_zero, List.set_cons_succ]
  refine tkL (some 13) 3 ?vd4 rfl (by kernel_rfl) (by kernel_rfl) (fun _ _ _ h => h) (Or.inl ⟨by rfl, ?hyd4⟩) (by assumption) ?rd4
  case hyd4 => intro w hSw; (try dsimp only at hSw); go_simp; first | done | with_reducible rfl
  case' rd4 => try simp only [Act.put, List.setIfInBounds_toArray, List.set_cons_zero, List.set_cons_succ]
  refine tkL (some 14) 4 ?vd5 rfl (by kernel_rfl) (by kernel_rfl) (fun _ _ _ h => h) (Or.inl ⟨by rfl, ?hyd5⟩) (by assumption) ?rd5
  case hyd5 => intro w hSw; (try dsimp only at hSw); go_simp; first | done | with_reducible rfl
  case' rd5 => try simp only [Act.put, List.setIfInBounds_toArray, List.set_cons_zero, List.set_cons_succ]
  refine tkL (some 15) 5 ?vd6 rfl (by kernel_rfl) (by kernel_rfl) (fun _ _ _ h => h) (Or.inl ⟨by rfl, ?hyd6⟩) (by assumption) ?rd6
  case hyd6 => intro w hSw; (try dsimp only at hSw); go_simp; first | done | with_reducible rfl
  case' rd6 => try simp only [Act.put, List.setIfInBounds_toArray, List.set_cons_zero, List.set_cons_succ]
  refine lastL (i := 6) rfl (by kernel_rfl) (by kernel_rfl) (fun K9 hK => ?_)
  (obtain ⟨w4, hrun, hm4, hg4⟩ := hMd.del undMapE (wfI hcc.1 hcc.2) 0; go_simp)
  refine hK.out _ _ ?_
  clear hK K9
  try simp only [Act.put, List.setIfInBounds_toArray, List.set_cons_zero, List.set_cons_succ]
  rw [entF_del HND.out, hfv] at hm4
  have hm5 : IMc w4 mb n (entF l) l.length := by simpa using hm4
  have hl4 := grown_lv hg4
  have HR4 : Hid (RecS w4 mb e0 n l) := Lib.hid ⟨HRD.out.lv hl4 (fun k hk e => HNE.out (by subst e; simp only [List.map_append, List.mem_cons, List.mem_append] at hk ⊢; rcases hk with h | h; exact .inl h; exact .inr (.inl h))), hm5, by have h := HND.out; rw [List.map_append, List.nodup_append] at h; exact h.1, fun x hx => HI.out x (List.mem_append_left _ hx)⟩
  have HL4 := Lib.hid ((HE0.out.lv (D := fun _ => False)).trans (HLV.out.trans hl4 (E := fun k => k ∈ mb :: e0 :: l.map (fun x => x.1)) (fun _ _ h => h) (fun k _ e => by subst e; simp)) (E := fun k => k ∈ mb :: e0 :: l.map (fun x => x.1)) (fun _ _ h => h.elim) (fun _ _ h => h))
  clear hm4 hm5 hl4 hg4 hrun hMd s0 s1
  go_wp2
  go_end0
  exact ⟨rfl, HR4.out, HL4.out⟩


theorem IMc.mono {w : World} {b n k : Nat} {F : Int → Option Value} (h : IMc w b n F k) {n' : Nat} (hn : n ≤ n') : IMc w b n' F k := by
  obtain ⟨D, h1, h2⟩ := h
  exact ⟨D, h1.mono hn, h2⟩
/-- The new block's cells are written. -/
theorem ring_push1 {xd : World} {la er : Nat → Nat} {e0 eb : Nat} {c : Int} {u1 u2 : Value} {M : List (Nat × Int)} (h3 : EntsW xd la er ((e0, 0) :: M)) (hb : xd.heap[eb]? = some (.cells #[.int .i64 c, u1, u2] 105 (0, 0))) (hn : eb ∉ e0 :: M.map (fun x => x.1)) (p q : Nat) :
    xd.cell? ⟨eb, 1, none⟩ = some u1 ∧ xd.frozen? ⟨eb, 1, none⟩ = false ∧ (xd.setCell ⟨eb, 1, none⟩ (.pointer (some ⟨p, 0, none⟩))).cell? ⟨eb, 2, none⟩ = some u2 ∧ (xd.setCell ⟨eb, 1, none⟩ (.pointer (some ⟨p, 0, none⟩))).frozen? ⟨eb, 2, none⟩ = false ∧
    EntB ((xd.setCell ⟨eb, 1, none⟩ (.pointer (some ⟨p, 0, none⟩))).setCell ⟨eb, 2, none⟩ (.pointer (some ⟨q, 0, none⟩))) eb c p q ∧ EntsW ((xd.setCell ⟨eb, 1, none⟩ (.pointer (some ⟨p, 0, none⟩))).setCell ⟨eb, 2, none⟩ (.pointer (some ⟨q, 0, none⟩))) la er ((e0, 0) :: M) ∧
    Lv (fun k => k = eb) xd ((xd.setCell ⟨eb, 1, none⟩ (.pointer (some ⟨p, 0, none⟩))).setCell ⟨eb, 2, none⟩ (.pointer (some ⟨q, 0, none⟩))) := by
  have b1 : (xd.setCell ⟨eb, 1, none⟩ (.pointer (some ⟨p, 0, none⟩))).heap[eb]? = some (.cells #[.int .i64 c, .pointer (some ⟨p, 0, none⟩), u2] 105 (0, 0)) := by
    have h1 := heap_setCell_same xd eb 1 _ 105 (.pointer (some ⟨p, 0, none⟩)) hb
    simpa using h1
  have b2 : EntB ((xd.setCell ⟨eb, 1, none⟩ (.pointer (some ⟨p, 0, none⟩))).setCell ⟨eb, 2, none⟩ (.pointer (some ⟨q, 0, none⟩))) eb c p q := by
    have h1 := heap_setCell_same _ eb 2 _ 105 (.pointer (some ⟨q, 0, none⟩)) b1
    simpa [EntB] using h1
  refine ⟨by simp [World.cell?, hb], by simp [World.frozen?, hb], by simp [World.cell?, b1], by simp [World.frozen?, b1], b2, fun x hx => ?_, (lv_set xd eb 1 _).trans (lv_set _ eb 2 _) (fun _ _ h => h) (fun _ _ h => h)⟩
  have hne : x.1 ≠ eb := fun e => hn (by
    rcases List.mem_cons.1 hx with rfl | hx
    · exact List.mem_cons.2 (.inl e.symm)
    · exact List.mem_cons_of_mem _ (List.mem_map.2 ⟨x, hx, e⟩))
  exact ((h3 x hx).off hne _).off hne _
/-- The new block is put behind the end. -/
theorem ring_push2 {x3 : World} {la er : Nat → Nat} {e0 eb : Nat} {c : Int} {M : List (Nat × Int)} (h1 : Lnk la er e0 e0 (M.map (fun x => x.1))) (h2 : (e0 :: M.map (fun x => x.1)).Nodup) (h3 : EntsW x3 la er ((e0, 0) :: M)) (hb : EntB x3 eb c e0 (er e0)) (hn : eb ∉ e0 :: M.map (fun x => x.1)) :
    (∃ u, x3.cell? ⟨e0, 2, none⟩ = some u) ∧ x3.frozen? ⟨e0, 2, none⟩ = false ∧ (∃ u, (x3.setCell ⟨e0, 2, none⟩ (.pointer (some ⟨eb, 0, none⟩))).cell? ⟨er e0, 1, none⟩ = some u) ∧ (x3.setCell ⟨e0, 2, none⟩ (.pointer (some ⟨eb, 0, none⟩))).frozen? ⟨er e0, 1, none⟩ = false ∧
    RingW ((x3.setCell ⟨e0, 2, none⟩ (.pointer (some ⟨eb, 0, none⟩))).setCell ⟨er e0, 1, none⟩ (.pointer (some ⟨eb, 0, none⟩))) e0 ((eb, c) :: M) ∧ Lv (fun k => k ∈ e0 :: M.map (fun x => x.1)) x3 ((x3.setCell ⟨e0, 2, none⟩ (.pointer (some ⟨eb, 0, none⟩))).setCell ⟨er e0, 1, none⟩ (.pointer (some ⟨eb, 0, none⟩))) := by
  have hne : eb ≠ e0 ∧ eb ∉ M.map (fun x => x.1) := by simp only [List.mem_cons, not_or] at hn; exact hn
  have hS : EntsW x3 (upN la eb e0) (upN er eb (er e0)) ((e0, 0) :: (eb, c) :: M) := fun x hx => by
    by_cases e : x.1 = eb
    · rcases List.mem_cons.1 hx with rfl | hx
      · exact absurd e.symm hne.1
      · rcases List.mem_cons.1 hx with rfl | hx
        · rw [upN_same, upN_same]; exact hb
        · exact absurd (List.mem_map.2 ⟨x, hx, e⟩) hne.2
    · rw [upN_ne e, upN_ne e]
      refine h3 x ?_
      simp only [List.mem_cons] at hx ⊢
      rcases hx with h | h | h
      · exact .inl h
      · exact absurd (by rw [h]) e
      · exact .inr h
  have hme := Lnk.mem_er h1 e0 (by simp)
  have hmm : er e0 = e0 ∨ er e0 ∈ M.map (fun x => x.1) := by
    rcases List.mem_append.1 hme with h | h
    · exact .inr h
    · simp at h; exact .inl h
  have hS1 := hS.set2 e0 eb
  have hS2 := hS1.set1 (er e0) eb
  obtain ⟨-, -, a2, af⟩ := (hS (e0, 0) (by simp)).cells
  obtain ⟨cq, hq⟩ : ∃ cq, EntB (x3.setCell ⟨e0, 2, none⟩ (.pointer (some ⟨eb, 0, none⟩))) (er e0) cq _ _ := ring_ent hS1 (by
    rcases hmm with h | h
    · exact .inl h
    · exact .inr (by simp only [List.map_cons, List.mem_cons]; exact .inr h))
  obtain ⟨-, b1, -, bf⟩ := hq.cells
  refine ⟨⟨_, a2⟩, af 2, ⟨_, b1⟩, bf 1, ⟨_, _, Lnk.push h1 hne.2 hne.1 h2, ?_, hS2⟩, (lv_set x3 e0 2 _).trans (lv_set _ (er e0) 1 _) (fun k _ e => by subst e; simp) (fun k _ e => by
    subst e
    rcases hmm with h | h
    · rw [h]; simp
    · exact List.mem_cons_of_mem _ h)⟩
  obtain ⟨h21, h22⟩ := List.nodup_cons.1 h2
  simp only [List.map_cons, List.nodup_cons, List.mem_cons, not_or]
  exact ⟨⟨fun e => hne.1 e.symm, h21⟩, hne.2, h22⟩

end Go.Proofs.Ytggpjapmhakklaa
