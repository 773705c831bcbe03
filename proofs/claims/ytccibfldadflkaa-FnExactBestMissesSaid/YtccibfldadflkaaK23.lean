/- The texts Bk, joined. No statement is proved here. -/
import Derived.Test.YtccibfldadflkaaK22
import Derived.Test.YtccibfldadflkaaK34
import Derived.Test.YtccibfldadflkaaK28
/- slices.Backward of ints, as an iterator. No statement is proved here. -/
namespace Go.Proofs.Ytccibfldadflkaa
open Go.RowKit
attribute [local go_sem] Oper.semAt_some

theorem lvCell {D : Nat → Prop} {A B : World} {b o : Nat} {v : Value} (h : Lv D A B) (hc : A.cell? ⟨b, o, none⟩ = some v) (hn : ¬ D b) : B.cell? ⟨b, o, none⟩ = some v := by
  have hb := h.block b (World.block_lt_of_cell? A _ hc) hn
  rw [← hc]
  unfold World.cell?
  simp only [hb]
theorem IntsAt.lv0 {D : Nat → Prop} {w w' : World} {q : Option Addr} {n c : Nat} {xs : List Int} (h : IntsAt w (.slice q n c) xs) (hv : Lv D w w') (hn : ∀ b o, q = some ⟨b, o, none⟩ → 0 < xs.length → ¬ D b) : IntsAt w' (.slice q n c) xs := by
  obtain ⟨p', c', e, hm, hc⟩ := h
  simp only [Value.slice.injEq] at e
  obtain ⟨rfl, rfl, rfl⟩ := e
  refine ⟨_, _, rfl, hm, fun i x hi => ?_⟩
  obtain ⟨b, off, hp, hcell⟩ := hc i x hi
  exact ⟨b, off, hp, lvCell hv hcell (hn b off hp (by have := (List.getElem?_eq_some_iff.1 hi).1; omega))⟩
theorem IntsAt.blk_lt {w : World} {q : Option Addr} {n c : Nat} {xs : List Int} (h : IntsAt w (.slice q n c) xs) (h0 : 0 < xs.length) {b o : Nat} (e : q = some ⟨b, o, none⟩) : b < w.heap.size := by
  obtain ⟨-, hc⟩ := h.cl
  obtain ⟨x, hx⟩ := get_some (xs := xs) (k := 0) h0
  obtain ⟨b', off, hp, hcell⟩ := hc 0 x hx
  rw [e] at hp
  cases hp
  exact World.block_lt_of_cell? w _ hcell
theorem own_nextU {Z : Nat → Prop} {own own' : List Nat} {W W' : World} (h : ∀ b ∈ own, b < W.heap.size ∧ ¬ Z b) (hg : Grew own own' W W') (hZ : ∀ b, Z b → b < W.heap.size) : ∀ b ∈ own', b < W'.heap.size ∧ ¬ Z b := fun b hb => by
  obtain ⟨h1, h2⟩ := hg.2 b hb
  rcases h1 with h1 | h1
  · exact ⟨h2, (h b h1).2⟩
  · exact ⟨h2, fun hz => by have := hZ b hz; omega⟩
def bkI (ds : List Int) : List (Nat × Int) := (List.range ds.length).map (fun k => (ds.length - 1 - k, ds.getD (ds.length - 1 - k) 0))
def encK (x : Nat × Int) : Array Value := #[.int .i64 (x.1 : Int), .int .i64 x.2]
theorem bkI_len (ds : List Int) : (bkI ds).length = ds.length := by simp [bkI]
theorem bkI_get {ds : List Int} {t k : Nat} {d : Int} (h : ds[t]? = some d) (hk : k = ds.length - 1 - t) : (bkI ds)[k]? = some (t, d) := by
  have ht := (List.getElem?_eq_some_iff.1 h).1
  unfold bkI
  rw [List.getElem?_map, List.getElem?_range (by omega)]
  have e : ds.length - 1 - k = t := by omega
  rw [Option.map_some, e, List.getD_eq_getElem?_getD, h]
  rfl
theorem bkI_at {ds : List Int} {k t : Nat} {d : Int} (h : (bkI ds)[k]? = some (t, d)) : k < ds.length ∧ t = ds.length - 1 - k ∧ ds[t]? = some d := by
  have hk := (List.getElem?_eq_some_iff.1 h).1
  rw [bkI_len] at hk
  obtain ⟨d', hd'⟩ := get_some (xs := ds) (k := ds.length - 1 - k) (by omega)
  rw [bkI_get (k := k) hd' (by omega)] at h
  cases h
  exact ⟨hk, rfl, hd'⟩

theorem backI_call (q : Option Addr) (N c : Nat) (w : World) : Calls Try.prog 113 #[.slice q N c] w fun e w' =>
    e = .returned (.func (.func 119) #[] #[.pointer (some ⟨w.heap.size, 0, none⟩)]) ∧ w' = w.alloc (.cells #[.slice q N c] 22) := by
  go_enter Try.func113, Try.ntmps113
  go_wp2
  go_ret
  exact ⟨rfl, rfl⟩

set_option linter.unusedVariables false in
set_option linter.unusedSimpArgs false in
set_option maxRecDepth 100000 in
set_option maxHeartbeats 4000000 in
theorem backI_seqB (base m m' PX N c : Nat) (q : Option Addr) (ds : List Int) (Z : Nat → Prop) (w : World) (hN : ds.length = N) (hN2 : N ≤ 600)
    (hD : IntsAt w (.slice q N c) ds) (hB : w.heap[PX]? = some (.cells #[.slice q N c] 22 (0, 0))) (hZ : ∀ b, Z b → b < w.heap.size) (hZP : Z PX) (hZD : ∀ b o, q = some ⟨b, o, none⟩ → 0 < N → Z b) :
    SeqB base Fence.wide m m' Try.prog 119 #[.pointer (some ⟨PX, 0, none⟩)] encK (fun _ _ => True) (fun _ => True) (fun _ => False) Z (bkI ds) w := by
  intro l J Jx own W hvW hJ hJx hown hY h0
  have hBW := hvW.heap hB (fun h => h)
  have hDW := hD.lv0 hvW (fun _ _ _ _ h => h)
  have hZW : ∀ b, Z b → b < W.heap.size := fun b h => Nat.lt_of_lt_of_le (hZ b h) hvW.size
  have HB := Lib.hid hBW; have HDW := Lib.hid hDW; have HY := Lib.hid hY; have HOWN := Lib.hid hown; have HZW := Lib.hid hZW; have H0 := Lib.hid h0; have HJ := Lib.hid hJ; have HZP := Lib.hid hZP; have HZD := Lib.hid hZD; have HN := Lib.hid hN
  obtain ⟨b0, -⟩ := blk1 hBW
  clear hvW hB hD hBW hDW hZ hZW hY hown h0 hJ hJx hZP hZD hN
  have hdd : ∀ k : Nat, (Fence.wide.depth.isSome = true → 1 ≤ k) := fun k h => by cases h
  show CallsIn Fence.wide m Try.prog 119 #[.func (.yield l) #[] #[], .pointer (some ⟨PX, 0, none⟩)] W _
  refine callsIn_of_wp Try.func119 rfl trivial ?_ rfl
  simp only [Try.ntmps119, List.size_toArray, List.length_cons, List.length_nil, Nat.reduceAdd, Nat.reduceSub, Array.replicate_succ, Array.replicate_zero, List.push_toArray, List.append_toArray, List.nil_append, List.cons_append]
  gi_wp2_with (fail)
  gi_loopw [3] (fun iv wr => ∃ (x : Int) (own1 : List Nat), -1 ≤ x ∧ x < (N : Int) ∧ iv = .int .i64 x ∧ J ((bkI ds).take (N - (x + 1).toNat)) own1 wr ∧ Grew own own1 W wr) (fun iv _ => (intOf iv + 1).toNat)
  case atStart => exact ⟨(N : Int) - 1, own, by omega, by omega, by go_num, by rw [show N - ((N : Int) - 1 + 1).toNat = 0 by omega]; exact H0.out, Grew.refl own W (fun b hb => (HOWN.out b hb).1)⟩
  case round =>
    obtain ⟨x, own1, hx1, hxN, rfl, hj, hg⟩ := hrel
    by_cases h0 : 0 ≤ x
    · obtain ⟨t, rfl⟩ : ∃ t : Nat, x = t := ⟨x.toNat, by omega⟩
      have htN : t < N := by omega
      obtain ⟨d, hd⟩ := get_some (xs := ds) (k := t) (by rw [HN.out]; exact htN)
      obtain ⟨u, hu⟩ : ∃ u, N - ((t : Int) + 1).toNat = u := ⟨_, rfl⟩
      have hget := bkI_get (k := u) hd (by rw [HN.out]; omega)
      have HTK : Hid ((bkI ds).take (u + 1) = (bkI ds).take u ++ [(t, d)]) := Lib.hid (take_next hget)
      have hpre : ((bkI ds).take u ++ [(t, d)]) <+: bkI ds := by rw [← HTK.out]; exact List.take_prefix _ _
      have HNU : Hid (N - ((t : Int) - 1 + 1).toNat = u + 1) := Lib.hid (by omega)
      rw [hu] at hj
      have y0 := (blk1 (hg.1.heap HB.out (fun h => (HOWN.out _ h).2 HZP.out))).1
      have hDr := HDW.out.lv0 hg.1 (fun b o hb _ h => (HOWN.out _ h).2 (HZD.out b o hb (by omega)))
      obtain ⟨-, hcc⟩ := hDr.cl
      obtain ⟨b, off, rfl, d0⟩ := hcc t d hd
      obtain ⟨fn, tmps, assign, body, hy, hR⟩ := HY.out _ (t, d) own1 _ hj hpre trivial (own_nextU HOWN.out hg HZW.out)
      dsimp only [encK] at hy
      have HG1 := Lib.hid hg; have HPRE := Lib.hid hpre
      have htI : (t : Int) < (N : Int) := by omega
      have hb0' : decide ((0 : Int) ≤ (t : Int)) = true := by simp
      clear hj hg hd hget hpre hDr hu hcc
      gi_wp2_with (fail)
      refine ⟨hdd _, ?_⟩
      refine (round_wide hR).mono ?_
      clear hR
      rintro e V2 ⟨own3, hg3, (⟨rfl, hj3⟩ | ⟨rfl, hj3⟩)⟩
      · have HJ3 := Lib.hid hj3; have HG3 := Lib.hid (HG1.out.trans hg3)
        clear hg3 hj3 hy y0 d0
        gi_wp2
        go_roundw
        case rel => exact ⟨(t : Int) - 1, own3, by omega, by omega, by go_num, by rw [HNU.out, HTK.out]; exact HJ3.out, HG3.out⟩
        case measure => simp [intOf] <;> omega
      · have HJ3 := Lib.hid hj3; have HG3 := Lib.hid (HG1.out.trans hg3)
        clear hg3 hj3 hy y0 d0
        gi_wp2
        first
          | refine bodyPost_ret (results_none rfl _ _ _) rfl ?_
          | refine ⟨_, results_none rfl _ _ _, ?_⟩
        exact ⟨⟨_, rfl⟩, own3, HG3.out.2, HG3.out.1.mono (fun _ _ h => .inl h), trivial, .inr ⟨_, HPRE.out, HJ3.out⟩⟩
    · obtain rfl : x = -1 := by omega
      have HJ1 : Hid (J (bkI ds) own1 wr) := Lib.hid (by have h := hj; rwa [show N - ((-1 : Int) + 1).toNat = N by omega, List.take_of_length_le (by rw [bkI_len, HN.out]; exact Nat.le_refl _)] at h)
      have HG1 := Lib.hid hg
      clear hj hg
      gi_wp2_with (fail)
      first
        | exact bodyPost_end (results_none rfl _ _ _) rfl ⟨⟨_, rfl⟩, own1, HG1.out.2, HG1.out.1.mono (fun _ _ h => .inl h), trivial, .inl HJ1.out⟩
        | exact bodyPost_end (results_none rfl _ _ _) rfl ⟨⟨_, rfl⟩, own1, HG1.out.2, HG1.out.1, .inl HJ1.out⟩
        | exact bodyPost_end (results_none rfl _ _ _) rfl ⟨own1, HG1.out.2, HG1.out.1, .inl HJ1.out⟩
end Go.Proofs.Ytccibfldadflkaa
