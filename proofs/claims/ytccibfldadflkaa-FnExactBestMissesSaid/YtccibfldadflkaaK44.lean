/- The texts Qe4 Qe5, joined. No statement is proved here. -/
import Derived.Test.YtccibfldadflkaaK46
/- The queue at use: heap.Push, heap.Pop, add and take(0) (by qe4.py). No statement is proved here. -/
namespace Go.Proofs.Ytccibfldadflkaa
open Go.RowKit Go.Maps

theorem QuV.r {B g n c o : Nat} {w : World} {xs : List Us} (h : QuV B g w (some ⟨o, 0, none⟩) n c xs) : ItQ B o n c w xs := ⟨h.2.1, h.2.2.1⟩
theorem QuV.of {B g n c o : Nat} {w w' : World} {xs ys : List Us} (h : QuV B g w (some ⟨o, 0, none⟩) n c xs) (hr : ItQ B o n c w' ys) (hL : Lv (fun k => k = o) w w') : QuV B g w' (some ⟨o, 0, none⟩) n c ys :=
  ⟨hL.heap h.1 (fun e => h.2.2.2 (by rw [e]; rfl)), hr.1, hr.2, h.2.2.2⟩
theorem QuV.ext {B g n c : Nat} {p : Option Addr} {w w' : World} {xs : List Us} (h : QuV B g w p n c xs) (hE : Ext w w') : QuV B g w' p n c xs := ⟨hE.blk h.1, ownsRow_ext h.2.1 hE, h.2.2.1, h.2.2.2⟩
set_option linter.unusedVariables false in
set_option maxRecDepth 100000 in
set_option maxHeartbeats 2000000 in
theorem heapPushU_any (B g n c : Nat) (p : Option Addr) (xs : List Us) (x : Us) (w : World) (h : QuV B g w p n c xs) (hn : n < 1000) (hB : B ≤ w.heap.size) :
    Calls Try.prog 156 #[.iface 64 (.pointer (some ⟨g, 0, none⟩)), .iface 121 (.agg #[.int .i64 x.1, .int .i64 x.2])] w fun e w' => e = .returned (.tuple #[]) ∧ ∃ o c', QuV B g w' (some ⟨o, 0, none⟩) (n + 1) c' (upU n (xs ++ [x]) n) ∧ Lv (fun k => k = g ∨ (Value.slice p n c).ownBlock = some k) w w' ∧ ((Value.slice p n c).ownBlock = some o ∨ w.heap.size ≤ o) := by
  have HH := Lib.hid h
  clear h
  have hme : ∀ fl : Nat, (method (fl + 1) 64 (.pointer (some ⟨g, 0, none⟩)) "Push").run Try.prog w = .ok (179, .pointer (some ⟨g, 0, none⟩)) w := fun fl => method_queueP fl 179 "Push" ⟨g, 0, none⟩ w (by kernel_rfl)
  go_enter Try.func156, Try.ntmps156
  go_wp2_with (fail)
  refine (queuePush_any B g n c p xs x _ HH.out (by omega) hB).mono ?_
  rintro e w1 ⟨rfl, o, c', h1, hL, ho⟩
  have H1 := Lib.hid h1; have L1 := Lib.hid hL; have HO := Lib.hid ho
  have hgo : g ≠ o := fun e => h1.2.2.2 (by rw [e]; rfl)
  have hq := h1.1
  clear hme h1 hL ho
  obtain ⟨n1, hn1⟩ : ∃ m, n + 1 = m := ⟨_, rfl⟩
  rw [hn1] at H1 hq
  have e3 : (n1 : Int) - 1 = (n : Int) := by omega
  have hme : ∀ fl : Nat, (method (fl + 1) 64 (.pointer (some ⟨g, 0, none⟩)) "Len").run Try.prog w1 = .ok (149, .pointer (some ⟨g, 0, none⟩)) w1 := fun fl => method_queueP fl 149 "Len" ⟨g, 0, none⟩ w1 (by kernel_rfl)
  go_wp2_with (fail)
  refine (queueLen_any g _ n1 c' _ hq).mono ?_
  rintro e w2 ⟨rfl, rfl⟩
  go_wp2_with (fail)
  refine (heapUpU_any B o n1 c' g n (xs ++ [x]) _ hq hgo H1.out.r (by omega) (by omega)).mono ?_
  rintro e w3 ⟨rfl, h3, hL⟩
  have H3 := Lib.hid (H1.out.of h3 hL)
  have L3 : Hid (Lv (fun k => k = g ∨ (Value.slice p n c).ownBlock = some k) w w3) := Lib.hid (L1.out.trans hL (fun _ _ h => h) (fun b hb e => by
    subst e
    rcases HO.out with h | h
    · exact .inr h
    · omega))
  clear h3 hL hme hq hgo
  go_wp2
  go_end0
  subst hn1
  exact ⟨rfl, o, c', H3.out, L3.out, HO.out⟩
set_option linter.unusedVariables false in
set_option maxRecDepth 100000 in
set_option maxHeartbeats 2000000 in
theorem heapPopU_any (B g n c o : Nat) (xs : List Us) (x y : Us) (w : World) (h : QuV B g w (some ⟨o, 0, none⟩) (n + 1) c xs) (hx : xs[0]? = some x) (hy : xs[n]? = some y) (hn : n < 1000) (hc2 : c ≤ 9223372036854775807) (z : Us) (hz : (dnU n ((xs.set 0 y).set n x) 0 n)[n]? = some z) (hnc : n + 1 ≤ c) :
    Calls Try.prog 155 #[.iface 64 (.pointer (some ⟨g, 0, none⟩))] w fun e w' => e = .returned (.iface 121 (.agg #[.int .i64 z.1, .int .i64 z.2])) ∧ QuV B g w' (some ⟨o, 0, none⟩) n c ((dnU n ((xs.set 0 y).set n x) 0 n).take n) ∧ Lv (fun k => k = g ∨ k = o) w w' := by
  have HH := Lib.hid h; have HX := Lib.hid hx; have HY := Lib.hid hy; have HZ := Lib.hid hz
  have hgo : g ≠ o := fun e => h.2.2.2 (by rw [e]; rfl)
  have hq := h.1
  clear h hx hy hz
  obtain ⟨n1, hn1⟩ : ∃ m, n + 1 = m := ⟨_, rfl⟩
  rw [hn1] at HH hq
  have e3 : (n1 : Int) - 1 = (n : Int) := by omega
  have hme : ∀ fl : Nat, (method (fl + 1) 64 (.pointer (some ⟨g, 0, none⟩)) "Len").run Try.prog w = .ok (149, .pointer (some ⟨g, 0, none⟩)) w := fun fl => method_queueP fl 149 "Len" ⟨g, 0, none⟩ w (by kernel_rfl)
  have hms : ∀ fl : Nat, (method (fl + 1) 64 (.pointer (some ⟨g, 0, none⟩)) "Swap").run Try.prog w = .ok (180, .pointer (some ⟨g, 0, none⟩)) w := fun fl => method_queueP fl 180 "Swap" ⟨g, 0, none⟩ w (by kernel_rfl)
  go_enter Try.func155, Try.ntmps155
  go_wp2_with (fail)
  refine (queueLen_any g _ n1 c _ hq).mono ?_
  rintro e w1 ⟨rfl, hw⟩
  obtain rfl := hw.symm
  go_wp2_with (fail)
  refine (queueSwap_any B g o n1 c 0 n xs x y _ hq HH.out.r HX.out HY.out).mono ?_
  rintro e w2 ⟨rfl, h2, hL2⟩
  have H2 := Lib.hid (HH.out.of h2 hL2); have L2 := Lib.hid hL2
  have hq2 : QuB w2 g (some ⟨o, 0, none⟩) n1 c := hL2.heap hq hgo
  clear h2 hL2 hme hms hq
  go_wp2_with (fail)
  refine (heapDnU_any B o n1 c g 0 n ((xs.set 0 y).set n x) _ hq2 hgo H2.out.r (by omega) (by omega) (by omega)).mono ?_
  rintro e w3 ⟨⟨b, rfl⟩, h3, hL3⟩
  have H3 := Lib.hid (H2.out.of h3 hL3); have L3 := Lib.hid (L2.out.trans hL3 (E := fun k => k = o) (fun _ _ h => h) (fun _ _ h => h))
  clear h3 hL3 hq2
  have hme : ∀ fl : Nat, (method (fl + 1) 64 (.pointer (some ⟨g, 0, none⟩)) "Pop").run Try.prog w3 = .ok (178, .pointer (some ⟨g, 0, none⟩)) w3 := fun fl => method_queueP fl 178 "Pop" ⟨g, 0, none⟩ w3 (by kernel_rfl)
  go_wp2_with (fail)
  refine (queuePop_any B g n c o _ z _ (by rw [← hn1] at H3; exact H3.out) HZ.out (by omega) hnc hc2).mono ?_
  rintro e w4 ⟨rfl, h4, hL4⟩
  have H4 := Lib.hid h4
  have L4 : Hid (Lv (fun k => k = g ∨ k = o) w w4) := Lib.hid (L3.out.trans hL4 (fun _ _ h => .inr h) (fun _ _ h => .inl h))
  clear h4 hL4 hme
  go_wp2
  go_ret
  exact ⟨rfl, H4.out, L4.out⟩

set_option maxHeartbeats 2000000 in
theorem queueAdd_any (B g n c : Nat) (p : Option Addr) (xs : List Us) (x : Us) (w : World) (h : QuV B g w p n c xs) (hn : n < 1000) (hB : B ≤ w.heap.size) :
    Calls Try.prog 154 #[.pointer (some ⟨g, 0, none⟩), .agg #[.int .i64 x.1, .int .i64 x.2]] w fun e w' => e = .returned (.tuple #[]) ∧ ∃ o c', QuV B g w' (some ⟨o, 0, none⟩) (n + 1) c' (upU n (xs ++ [x]) n) ∧ Lv (fun k => k = g ∨ (Value.slice p n c).ownBlock = some k) w w' ∧ ((Value.slice p n c).ownBlock = some o ∨ w.heap.size ≤ o) := by
  have HH := Lib.hid h
  clear h
  obtain ⟨W0, hW0⟩ : ∃ W, w.alloc (.cells #[.int .i64 x.1, .int .i64 x.2] 121) = W := ⟨_, rfl⟩
  have E0 : Hid (Ext w W0) := Lib.hid (by rw [← hW0]; exact (Ext.refl w).alloc _)
  have hb : W0.heap[w.heap.size]? = some (.cells #[.int .i64 x.1, .int .i64 x.2] 121 (0, 0)) := by rw [← hW0]; exact blk_at rfl
  obtain ⟨b0, b1, -, -⟩ := blk2 hb
  clear hb
  go_enter Try.func154, Try.ntmps154
  go_wp2_with (fail)
  try rw [hW0]
  refine (heapPushU_any B g n c p xs x _ (HH.out.ext E0.out) hn (by have := E0.out.size_le; omega)).mono ?_
  rintro e w1 ⟨rfl, o, c', h1, hL, ho⟩
  have H1 := Lib.hid h1
  have L1 : Hid (Lv (fun k => k = g ∨ (Value.slice p n c).ownBlock = some k) w w1) := Lib.hid ((E0.out.lv (D := fun _ => False)).trans hL (fun _ _ h => h.elim) (fun _ _ h => h))
  have HO : Hid ((Value.slice p n c).ownBlock = some o ∨ w.heap.size ≤ o) := Lib.hid (by have := E0.out.size_le; rcases ho with h | h; exact .inl h; exact .inr (by omega))
  clear h1 hL ho b0 b1 hW0
  go_wp2
  go_end0
  exact ⟨rfl, o, c', H1.out, L1.out, HO.out⟩
end Go.Proofs.Ytccibfldadflkaa

/- The queue at use: pure facts on its heap (the access furthest ahead in front; the same accesses), by qe5.py out of G85, G86. No statement is proved here. -/
namespace Go.Proofs.Ytccibfldadflkaa
open Go.RowKit Go.Maps

def itU (xs : List Us) (i : Nat) : Us := xs.getD i (0, 0)
def kt (xs : List Us) (i : Nat) : Int := -(itU xs i).2
def swpU (xs : List Us) (i j : Nat) : List Us := (xs.set i (itU xs j)).set j (itU xs i)
theorem swpU_len (xs : List Us) (i j : Nat) : (swpU xs i j).length = xs.length := by simp [swpU]
theorem itU_get {xs : List Us} {i : Nat} (h : i < xs.length) : itU xs i = xs[i] := by unfold itU; rw [List.getD_eq_getElem?_getD, List.getElem?_eq_getElem h]; rfl
theorem swpU_perm {xs : List Us} {i j : Nat} (hi : i < xs.length) (hj : j < xs.length) : (swpU xs i j).Perm xs := by
  unfold swpU
  rw [itU_get hi, itU_get hj]
  exact List.set_set_perm hi hj
theorem itU_set {xs : List Us} {i k : Nat} {a : Us} (hi : i < xs.length) : itU (xs.set i a) k = if k = i then a else itU xs k := by
  unfold itU
  rw [List.getD_eq_getElem?_getD, List.getD_eq_getElem?_getD]
  by_cases e : k = i
  · subst e
    rw [List.getElem?_set_self hi, if_pos rfl]
    rfl
  · rw [List.getElem?_set_ne (Ne.symm e), if_neg e]
theorem swpU_it {xs : List Us} {i j : Nat} (hi : i < xs.length) (hj : j < xs.length) (k : Nat) : itU (swpU xs i j) k = if k = j then itU xs i else if k = i then itU xs j else itU xs k := by
  unfold swpU
  rw [itU_set (by simpa using hj), itU_set hi]
theorem swpU_at {xs : List Us} {i j : Nat} (hi : i < xs.length) (hj : j < xs.length) (k : Nat) : kt (swpU xs i j) k = if k = j then kt xs i else if k = i then kt xs j else kt xs k := by
  unfold kt
  rw [swpU_it hi hj]
  split
  · rfl
  · split <;> rfl
def parU (i : Nat) : Nat := (i - 1) / 2
/-- The least in front: among the first n. -/
def hpU (xs : List Us) (n : Nat) : Prop := ∀ i, 0 < i → i < n → kt xs (parU i) ≤ kt xs i
/-- The same but for the place j, from which something goes up. -/
def upUok (xs : List Us) (n j : Nat) : Prop := (∀ i, 0 < i → i < n → i ≠ j → kt xs (parU i) ≤ kt xs i) ∧ (∀ i, 0 < i → i < n → parU i = j → 0 < j → kt xs (parU j) ≤ kt xs i)
theorem kt_lt (xs : List Us) (i j : Nat) : ((xs.getD i (0, 0)).2 < (xs.getD j (0, 0)).2) = (kt xs j < kt xs i) := by
  unfold kt itU
  exact propext ⟨fun h => by omega, fun h => by omega⟩
theorem upU_next (f : Nat) (xs : List Us) (j : Nat) : upU (f + 1) xs j = if j = 0 then xs else if kt xs j < kt xs (parU j) then upU f (swpU xs (parU j) j) (parU j) else xs := by
  rw [upU]
  simp only [kt_lt]
  rfl
theorem upU_perm : ∀ (f : Nat) (xs : List Us) (j : Nat), j < xs.length → (upU f xs j).Perm xs
  | 0, xs, _, _ => List.Perm.refl xs
  | f + 1, xs, j, hj => by
    rw [upU_next]
    split
    · exact List.Perm.refl xs
    · split
      · have hp : parU j < xs.length := by unfold parU; omega
        exact (upU_perm f _ _ (by rw [swpU_len]; exact hp)).trans (swpU_perm hp hj)
      · exact List.Perm.refl xs
theorem upU_ok : ∀ (f : Nat) (xs : List Us) (j : Nat), j < xs.length → j ≤ f → upUok xs xs.length j → hpU (upU f xs j) xs.length
  | 0, xs, j, hj, hf, h => by
    obtain rfl : j = 0 := by omega
    exact fun i h1 h2 => h.1 i h1 h2 (by omega)
  | f + 1, xs, j, hj, hf, h => by
    rw [upU_next]
    split
    · rename_i hz
      subst hz
      exact fun i h1 h2 => h.1 i h1 h2 (by omega)
    · rename_i hz
      have hp : parU j < xs.length := by unfold parU; omega
      have hpj : parU j < j := by unfold parU; omega
      split
      · rename_i hlt
        have key : upUok (swpU xs (parU j) j) xs.length (parU j) := by
          refine ⟨fun i h1 h2 h3 => ?_, fun i h1 h2 h3 h4 => ?_⟩
          · rw [swpU_at hp hj, swpU_at hp hj]
            by_cases e : i = j
            · subst e
              rw [if_neg (by omega), if_pos rfl, if_pos rfl]
              omega
            · rw [if_neg e, if_neg h3]
              by_cases e2 : parU i = j
              · rw [if_pos e2]
                exact h.2 i h1 h2 e2 (by omega)
              · rw [if_neg e2]
                by_cases e3 : parU i = parU j
                · rw [if_pos e3]
                  have := h.1 i h1 h2 e
                  rw [e3] at this
                  omega
                · rw [if_neg e3]
                  exact h.1 i h1 h2 e
          · rw [swpU_at hp hj, swpU_at hp hj]
            have hpp : parU (parU j) < parU j := by have : 0 < parU j := h4; unfold parU at *; omega
            rw [if_neg (by omega), if_neg (by omega)]
            have hpar : kt xs (parU (parU j)) ≤ kt xs (parU j) := h.1 (parU j) h4 hp (by omega)
            by_cases e : i = j
            · rw [if_pos e]
              exact hpar
            · have hi := h.1 i h1 h2 e
              rw [h3] at hi
              have hip : i ≠ parU j := by intro e5; rw [e5] at h3; omega
              rw [if_neg e, if_neg hip]
              omega
        have ih := upU_ok f (swpU xs (parU j) j) (parU j) (by rw [swpU_len]; exact hp) (by omega) (by rw [swpU_len]; exact key)
        rw [swpU_len] at ih
        exact ih
      · rename_i hlt
        intro i h1 h2
        by_cases e : i = j
        · subst e; omega
        · exact h.1 i h1 h2 e
/-- The same but for the place j, from which something goes down. -/
def dnUok (xs : List Us) (n j : Nat) : Prop := (∀ i, 0 < i → i < n → parU i ≠ j → kt xs (parU i) ≤ kt xs i) ∧ (∀ i, 0 < i → i < n → parU i = j → 0 < j → kt xs (parU j) ≤ kt xs i)
theorem dnU_next (f : Nat) (xs : List Us) (i n : Nat) : dnU (f + 1) xs i n = if n ≤ 2 * i + 1 then xs else if kt xs (kidU xs i n) < kt xs i then dnU f (swpU xs i (kidU xs i n)) (kidU xs i n) n else xs := by
  rw [dnU]
  simp only [kt_lt]
  rfl
theorem kidU_def (xs : List Us) (i n : Nat) : kidU xs i n = if 2 * i + 2 < n ∧ kt xs (2 * i + 2) < kt xs (2 * i + 1) then 2 * i + 2 else 2 * i + 1 := by
  unfold kidU
  simp only [kt_lt]
theorem kidU_or (xs : List Us) (i n : Nat) : (kidU xs i n = 2 * i + 1) ∨ (kidU xs i n = 2 * i + 2 ∧ 2 * i + 2 < n) := by
  rw [kidU_def]
  split
  · rename_i h; exact .inr ⟨rfl, h.1⟩
  · exact .inl rfl
theorem kidU_le {xs : List Us} {i n k : Nat} (hk : 0 < k) (hkn : k < n) (hp : parU k = i) : kt xs (kidU xs i n) ≤ kt xs k := by
  have hk2 : k = 2 * i + 1 ∨ k = 2 * i + 2 := by unfold parU at hp; omega
  rw [kidU_def]
  by_cases h : 2 * i + 2 < n ∧ kt xs (2 * i + 2) < kt xs (2 * i + 1)
  · rw [if_pos h]
    rcases hk2 with rfl | rfl
    · omega
    · omega
  · rw [if_neg h]
    rcases hk2 with rfl | rfl
    · omega
    · have : ¬ kt xs (2 * i + 2) < kt xs (2 * i + 1) := fun h2 => h ⟨hkn, h2⟩
      omega
theorem dnU_perm : ∀ (f : Nat) (xs : List Us) (i n : Nat), n ≤ xs.length → (dnU f xs i n).Perm xs
  | 0, xs, _, _, _ => List.Perm.refl xs
  | f + 1, xs, i, n, hn => by
    rw [dnU_next]
    split
    · exact List.Perm.refl xs
    · rename_i hz
      split
      · have hk : kidU xs i n < n := by rcases kidU_or xs i n with h | h <;> omega
        exact (dnU_perm f _ _ _ (by rw [swpU_len]; exact hn)).trans (swpU_perm (by omega) (by omega))
      · exact List.Perm.refl xs
theorem dnU_len (f : Nat) (xs : List Us) (i n : Nat) (hn : n ≤ xs.length) : (dnU f xs i n).length = xs.length := (dnU_perm f xs i n hn).length_eq
theorem dnU_out : ∀ (f : Nat) (xs : List Us) (i n k : Nat), n ≤ xs.length → n ≤ k → itU (dnU f xs i n) k = itU xs k
  | 0, xs, _, _, _, _, _ => rfl
  | f + 1, xs, i, n, k, hn, hk => by
    rw [dnU_next]
    split
    · rfl
    · rename_i hz
      split
      · have hkd : kidU xs i n < n := by rcases kidU_or xs i n with h | h <;> omega
        rw [dnU_out f _ _ _ _ (by rw [swpU_len]; exact hn) hk, swpU_it (by omega) (by omega), if_neg (by omega), if_neg (by omega)]
      · rfl
theorem dnU_ok : ∀ (f : Nat) (xs : List Us) (i n : Nat), n ≤ xs.length → n ≤ f + i → dnUok xs n i → hpU (dnU f xs i n) n
  | 0, xs, i, n, hn, hf, h => fun k h1 h2 => h.1 k h1 h2 (by unfold parU; omega)
  | f + 1, xs, i, n, hn, hf, h => by
    rw [dnU_next]
    split
    · rename_i hz
      exact fun k h1 h2 => h.1 k h1 h2 (by unfold parU; omega)
    · rename_i hz
      have hko := kidU_or xs i n
      have hkn : kidU xs i n < n := by rcases hko with h | h <;> omega
      have hki : i < kidU xs i n := by rcases hko with h | h <;> omega
      have hkp : parU (kidU xs i n) = i := by unfold parU; rcases hko with h | h <;> omega
      obtain ⟨q, hq⟩ : ∃ q, kidU xs i n = q := ⟨_, rfl⟩
      have hle : ∀ k, 0 < k → k < n → parU k = i → kt xs q ≤ kt xs k := fun k h1 h2 h3 => by rw [← hq]; exact kidU_le h1 h2 h3
      rw [hq] at hkn hki hkp ⊢
      split
      · rename_i hlt
        have hil : i < xs.length := by omega
        have hql : q < xs.length := by omega
        have key : dnUok (swpU xs i q) n q := by
          refine ⟨fun k h1 h2 h3 => ?_, fun k h1 h2 h3 h4 => ?_⟩
          · rw [swpU_at hil hql, swpU_at hil hql, if_neg h3]
            by_cases e : parU k = i
            · rw [if_pos e]
              by_cases e2 : k = q
              · rw [if_pos e2]; omega
              · rw [if_neg e2, if_neg (by intro e5; rw [e5] at e; unfold parU at e; omega)]
                exact hle k h1 h2 e
            · rw [if_neg e]
              have hkq : k ≠ q := by intro e5; rw [e5] at e; exact e hkp
              rw [if_neg hkq]
              by_cases e2 : k = i
              · rw [if_pos e2]
                subst e2
                exact h.2 q (by omega) hkn hkp h1
              · rw [if_neg e2]
                exact h.1 k h1 h2 e
          · rw [hkp, swpU_at hil hql, swpU_at hil hql, if_neg (by omega), if_pos rfl]
            have hkq : k ≠ q := by intro e5; rw [e5] at h3; unfold parU at h3; omega
            have hki2 : k ≠ i := by intro e5; rw [e5] at h3; unfold parU at h3; omega
            rw [if_neg hkq, if_neg hki2]
            have := h.1 k h1 h2 (by omega)
            rw [h3] at this
            exact this
        exact dnU_ok f (swpU xs i q) q n (by rw [swpU_len]; exact hn) (by omega) key
      · rename_i hlt
        intro k h1 h2
        by_cases e : parU k = i
        · rw [e]
          have := hle k h1 h2 e
          omega
        · exact h.1 k h1 h2 e
/-- The one in front is the least. -/
theorem hpU_min {xs : List Us} {n : Nat} (h : hpU xs n) : ∀ i, i < n → kt xs 0 ≤ kt xs i := by
  intro i
  induction i using Nat.strongRecOn with
  | ind i ih =>
    intro hi
    by_cases hz : i = 0
    · subst hz; omega
    · have h1 := ih (parU i) (by unfold parU; omega) (by unfold parU; omega)
      have h2 := h i (by omega) hi
      omega

theorem itU_some {xs : List Us} {i : Nat} (h : i < xs.length) : xs[i]? = some (itU xs i) := by rw [itU_get h]; exact List.getElem?_eq_getElem h
theorem itU_take {xs : List Us} {i n : Nat} (h : i < n) : itU (xs.take n) i = itU xs i := by
  unfold itU
  rw [List.getD_eq_getElem?_getD, List.getD_eq_getElem?_getD, List.getElem?_take, if_pos h]
/-- What heap.Pop takes out and leaves. -/
theorem popU_ok {xs : List Us} {n : Nat} (hlen : xs.length = n + 1) (hok : hpU xs (n + 1)) :
    xs[0]? = some (itU xs 0) ∧ xs[n]? = some (itU xs n) ∧ (dnU n ((xs.set 0 (itU xs n)).set n (itU xs 0)) 0 n)[n]? = some (itU xs 0) ∧ (itU xs 0 :: (dnU n ((xs.set 0 (itU xs n)).set n (itU xs 0)) 0 n).take n).Perm xs ∧ hpU ((dnU n ((xs.set 0 (itU xs n)).set n (itU xs 0)) 0 n).take n) n ∧ ∀ u ∈ xs, u.2 ≤ (itU xs 0).2 := by
  have hsw : (xs.set 0 (itU xs n)).set n (itU xs 0) = swpU xs 0 n := rfl
  rw [hsw]
  have hsl : (swpU xs 0 n).length = n + 1 := by rw [swpU_len, hlen]
  have hat := swpU_at (xs := xs) (i := 0) (j := n) (by omega) (by omega)
  have hdn : dnUok (swpU xs 0 n) n 0 := by
    refine ⟨fun k h1 h2 h3 => ?_, fun _ _ _ _ h => absurd h (by omega)⟩
    rw [hat, hat, if_neg (by unfold parU; omega), if_neg h3, if_neg (by omega), if_neg (by omega)]
    exact hok k h1 (by omega)
  have hz := dnU_ok n (swpU xs 0 n) 0 n (by omega) (by omega) hdn
  have hzl := dnU_len n (swpU xs 0 n) 0 n (by omega)
  have hzn : itU (dnU n (swpU xs 0 n) 0 n) n = itU xs 0 := by rw [dnU_out n _ _ _ _ (by omega) (Nat.le_refl _), swpU_it (by omega) (by omega), if_pos rfl]
  have hzp := (dnU_perm n (swpU xs 0 n) 0 n (by omega)).trans (swpU_perm (by omega) (by omega))
  generalize dnU n (swpU xs 0 n) 0 n = zs at *
  have hzs : zs[n]? = some (itU xs 0) := by rw [itU_some (by omega), hzn]
  refine ⟨itU_some (by omega), itU_some (by omega), hzs, ?_, fun i h1 h2 => ?_, fun u hu => ?_⟩
  · have e : zs = zs.take n ++ [itU xs 0] := by
      have := take_next hzs
      rw [List.take_of_length_le (by omega)] at this
      exact this
    rw [e] at hzp
    exact (List.perm_append_comm (l₁ := [itU xs 0]) (l₂ := zs.take n)).trans hzp
  · unfold kt
    rw [itU_take (by unfold parU; omega), itU_take h2]
    exact hz i h1 h2
  · obtain ⟨i, hi, e⟩ := List.mem_iff_getElem.1 hu
    have h1 := hpU_min hok i (by omega)
    unfold kt at h1
    rw [itU_get hi, e] at h1
    omega
theorem pushU_ok {xs : List Us} {n : Nat} (x : Us) (hlen : xs.length = n) (hok : hpU xs n) : (upU n (xs ++ [x]) n).Perm (x :: xs) ∧ hpU (upU n (xs ++ [x]) n) (n + 1) := by
  have hl : (xs ++ [x]).length = n + 1 := by rw [List.length_append, hlen]; rfl
  have hg : ∀ i, i < n → kt (xs ++ [x]) i = kt xs i := fun i hi => by
    unfold kt itU
    rw [List.getD_eq_getElem?_getD, List.getD_eq_getElem?_getD, List.getElem?_append_left (by omega)]
  refine ⟨(upU_perm n _ n (by omega)).trans (List.perm_append_comm (l₁ := xs) (l₂ := [x])), ?_⟩
  have h := upU_ok n (xs ++ [x]) n (by omega) (Nat.le_refl _) ⟨fun i h1 h2 h3 => ?_, fun i h1 h2 h3 h4 => ?_⟩
  · rw [hl] at h; exact h
  · rw [hl] at h2
    rw [hg _ (by unfold parU; omega), hg _ (by omega)]
    exact hok i h1 (by omega)
  · rw [hl] at h2
    unfold parU at h3
    omega
end Go.Proofs.Ytccibfldadflkaa
