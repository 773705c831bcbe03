/- The texts G15 G16, joined. No statement is proved here. -/
import Derived.Test.YtggpjapmhakklaaGreatQL07
import Derived.Test.YtggpjapmhakklaaGreatQL08
import Derived.Test.YtggpjapmhakklaaGreatQL13
import Derived.Test.YtggpjapmhakklaaGreatQL22
import Derived.Test.YtggpjapmhakklaaGreatQL14
set_option maxRecDepth 100000
set_option maxHeartbeats 8000000
set_option linter.unusedVariables false
set_option linter.unusedSimpArgs false
namespace Go.Proofs.YtggpjapmhakklaaGreat
open Go.Lib (hid)
open Go.RowKit Go.Maps
theorem wpList_lookup_at {H : Type} {P : Program} (w : World) {ops : Array Oper} {rest : List Oper} {o : Oper} {a : Act} {Q : Exit → Act → World → Prop}
  (hg : o.guard = none) (m x : Operand) (t : TypeId) (hop : o.op = Op.lookup t m x true)
  (k e : TypeId) (K : Keyed P k) (ht : P.underlying t = some (.map k e)) (R : Value → Option (DataW H × List MemPlace)) {z : Value} (hz : (zeroValue e).run P w = .ok z w) (zd : DataW H) (zp : List MemPlace) (hzd : R z = some (zd, zp)) (b n : Nat) (D : DataW H)
  (hm : a.eval m = .map (some b)) (hown : w.ownsMap P k R b n D) (key : Value) (kl : Lit) (hx : a.eval x = key) (hkey : keyOf P k key = some kl)
  (V : Value) (q : Bool) (hV : ∀ v ps, R v = some (D.atKey kl zd, ps) → v = V) (hh : Maps.has D kl = q)
  (hK : wpList P ops Q rest (a.put o.dst (.tuple #[V, .bool q])) w) : wpList P ops Q (o :: rest) a w :=
 wpList_lookup_own_ok w hg m x t hop k e K ht R hz zd zp hzd b n D hm hown key kl hx hkey (fun v ps h => by rw [hV v ps h, hh]; exact hK)
theorem zeroPlace (w : World) : (zeroValue 163).run Tryz.prog w = .ok (.agg #[.int .i64 0, .slice none 0 0]) w := by kernel_rfl
theorem mul30 {x d : Int} (h1 : 0 ≤ x) (h2 : x ≤ 5) (h3 : 1 ≤ d) (h4 : d ≤ 6) : 0 ≤ x * d ∧ x * d ≤ 30 := by
 have a := Int.mul_nonneg h1 (show 0 ≤ d by omega)
 have b := Int.mul_nonneg (show 0 ≤ 5 - x by omega) (show 0 ≤ d by omega)
 rw [Int.sub_mul] at b
 omega
theorem placeOf_bd {nm : ByteArray} {f : Int} {ds : List Int} : ∀ {l : List Arr} {b : Int}, (∀ a ∈ l, arrOkB a = true) → placeOf nm b l = some (f, ds) → ((1 ≤ ds.length ∧ ds.length ≤ 2) ∧ ∀ d ∈ ds, 1 ≤ d ∧ d ≤ 6) ∧ b ≤ f ∧ f ≤ b + totN l
 | [], _, _, h => by simp [placeOf] at h
 | a :: r, b, ho, h => by
  have hok := arrOk_parts (ho a (by simp))
  have hd := dimsN_bd hok.2.1 hok.2.2
  have ht := totN_bd (ars := r) (fun x hx => ho x (by simp [hx]))
  have e : totN (a :: r) = dimsN a.2 + totN r := by simp [totN]
  unfold placeOf at h
  split at h
  ·simp only [Option.some.injEq, Prod.mk.injEq] at h
   obtain ⟨rfl, rfl⟩ := h
   exact ⟨hok.2, by omega, by omega⟩
  ·obtain ⟨h1, h2, h3⟩ := placeOf_bd (fun x hx => ho x (by simp [hx])) h
   exact ⟨h1, by omega, by omega⟩
def celV (c : Int) : Int := if c < 0 then 0 else c
def celB (c : Int) : Bool := decide (0 ≤ c)
theorem cell_any (ars : List Arr) (arr : ByteArray) (s pv : Value) (subs : List Aff) (pt : List Int) (T : Int) (Bm Bs N : Nat) (D : DataW Value) (w0 w : World) (ho : arrsB ars = true) (hE : Ext w0 w) (hMI : MapIs w0 D ars) (hM : w.ownsMap Tryz.prog 9 rawE Bm N D) (ha : arr.size ≤ 9223372036854775807) (hs : LinsOwn Bs w s subs) (hp : IntsAt w pv pt) (hpb : ptB pt = true) :
  Calls Tryz.prog 78 #[.agg #[.map (some Bm), .int .i64 T], .agg #[.string arr, s], pv] w fun e w' => e = .returned (.tuple #[.int .i64 (celV (cellI arr subs pt 0 ars)), .bool (celB (cellI arr subs pt 0 ars))]) ∧ Ext w w' := by
 obtain ⟨p, c, rfl⟩ := hs.form
 obtain ⟨n, hn⟩ : ∃ n, subs.length = n := ⟨_, rfl⟩
 rw [hn] at hs ⊢
 obtain ⟨C, hC⟩ : ∃ C, cellI arr subs pt 0 ars = C := ⟨_, rfl⟩
 have hcp := cellI_place arr subs pt ars 0
 rw [hC] at hcp ⊢
 have hlen1 : arr.size ≤ maxLen := by unfold maxLen; exact ha
 have HO := hid ho; have HE := hid hE; have HM := hid hM; have HS := hid hs; have HP := hid hp; have HPB := hid hpb; have HN := hid hn
 obtain ⟨mn, ms⟩ := hMI arr
 clear ho hE hM hs hp hpb hn hC hMI
 cases hpl : placeOf arr 0 ars with
 | none =>
  rw [hpl] at hcp
  have hC1 : C = -1 := hcp
  have HC := hid hC1
  have hh : Maps.has D (kl arr) = false := mn hpl
  have hV : ∀ v ps, rawE v = some (D.atKey (kl arr) (.held (.agg #[.int .i64 0, .slice none 0 0])), ps) → v = .agg #[.int .i64 0, .slice none 0 0] := fun v ps h => by
   rw [Maps.atKey_of_not_has hh] at h
   simp only [rawE, Option.some.injEq, Prod.mk.injEq, DataW.held.injEq] at h
   exact h.1
  have HV := hid hV; have HH := hid hh
  clear hcp hC1 hV hh mn ms hpl
  go_enter Tryz.func78, Tryz.ntmps78
  go_wp2_with (first | (at_lookup; refine wpList_lookup_at _ rfl _ _ 51 rfl 9 163 keyStr Tryz.underlying51 rawE (zeroPlace _) _ [] rfl Bm N D rfl ((HM.out.alloc _).alloc _) _ _ rfl (WideMaps.keyOf_string_mk Tryz.underlying9 hlen1) (.agg #[.int .i64 0, .slice none 0 0]) false HV.out HH.out ?_) | fail)
  exact bodyPost_ret (v := .tuple #[.int .i64 0, .bool false]) (by simp [results, Tryz.results78, go_sem]) rfl ⟨by rw [HC.out]; rfl, (((Ext.refl w).alloc _).alloc _).alloc _⟩
 | some r =>
  obtain ⟨f, ds⟩ := r
  rw [hpl] at hcp
  obtain ⟨hh, q, c2, hat, hi0⟩ := ms f ds hpl
  have hV : ∀ v ps, rawE v = some (D.atKey (kl arr) (.held (.agg #[.int .i64 0, .slice none 0 0])), ps) → v = .agg #[.int .i64 f, .slice q ds.length c2] := fun v ps h => by
   rw [hat] at h
   simp only [rawE, Option.some.injEq, Prod.mk.injEq, DataW.held.injEq] at h
   exact h.1
  have hpb := placeOf_bd (by have h := HO.out; simp only [arrsB, Bool.and_eq_true, List.all_eq_true] at h; exact h.1) hpl
  rw [Int.zero_add] at hpb
  have htb : totN ars ≤ 144 := by
   have h1 := totN_bd (ars := ars) (by have h := HO.out; simp only [arrsB, Bool.and_eq_true, List.all_eq_true] at h; exact h.1)
   have h2 := arrs_len HO.out
   omega
  have HPL : ((1 ≤ ds.length ∧ ds.length ≤ 2) ∧ ∀ d ∈ ds, 1 ≤ d ∧ d ≤ 6) ∧ 0 ≤ f ∧ f ≤ 144 := ⟨hpb.1, hpb.2.1, by omega⟩
  clear hpb htb
  dsimp only at hcp
  have HV := hid hV; have HH := hid hh; have HI := hid (hi0.ext HE.out); have HCP := hid hcp
  clear hcp hV hh mn ms hpl hat hi0
  obtain ⟨m, hm⟩ : ∃ m, ds.length = m := ⟨_, rfl⟩
  rw [hm] at HV
  have HMm := hid hm
  obtain ⟨⟨⟨hd1, hd2⟩, hdd⟩, hf0, hf1⟩ := HPL
  rw [hm] at hd1 hd2
  have HDD := hid hdd
  clear hm hdd
  by_cases hnm : n = m
  ·subst hnm
   obtain ⟨qd, cd, hqe, hcm, hqc⟩ := HI.out.get
   rw [HMm.out] at hqe
   cases hqe
   have HQ := hid hqc
   clear hqc hcm
   go_enter Tryz.func78, Tryz.ntmps78
   go_wp2_with (first | (at_lookup; refine wpList_lookup_at _ rfl _ _ 51 rfl 9 163 keyStr Tryz.underlying51 rawE (zeroPlace _) _ [] rfl Bm N D rfl ((HM.out.alloc _).alloc _) _ _ rfl (WideMaps.keyOf_string_mk Tryz.underlying9 hlen1) (.agg #[.int .i64 f, .slice q n c2]) true HV.out HH.out ?_) | fail)
   obtain ⟨W0, hW0⟩ : ∃ W0, (((w.alloc (.cells #[.map (some Bm), .int .i64 T] 53)).alloc (.cells #[.string arr, .slice p n c] 118)).alloc (.cells #[.int .i64 f, .slice q n c2] 163)) = W0 := ⟨_, rfl⟩
   have E0 : Hid (Ext w W0) := hid (by rw [← hW0]; exact (((Ext.refl w).alloc _).alloc _).alloc _)
   have B0 := hid (show W0.heap[w.heap.size + 1 + 1]? = some (.cells #[.int .i64 f, .slice q n c2] 163 (0, 0)) by rw [← hW0]; exact blk_at (by simp))
   rw [hW0]
   clear hW0
   go_loopw [10, 36] (fun nv iv wr => ∃ (k : Nat) (nn : Int), k ≤ n ∧ iv = .int .i64 k ∧ nv = .int .i64 nn ∧ (k = 0 → nn = 0) ∧ (k ≤ 1 → nn ≤ 5) ∧ 0 ≤ nn ∧ nn ≤ 35 ∧ offD (ds.drop k) ((subs.map (evalA pt)).drop k) nn = offD ds (subs.map (evalA pt)) 0 ∧ Ext W0 wr) (fun _ iv _ => n - (intOf iv).toNat)
   case atStart => exact ⟨0, 0, by omega, rfl, rfl, fun _ => rfl, by omega, by omega, by omega, rfl, Ext.refl W0⟩
   case round =>
    obtain ⟨k, nn, hk, rfl, rfl, hn0, hn1, hn2, hn3, hoff, hE⟩ := hrel
    have HOF := hid hoff; have HE0 := hid hE; have HEW := hid (E0.out.trans hE); have H0 := hid hn0
    obtain ⟨y0, y1, -, -⟩ := blk2 (hE.blk B0.out)
    clear hoff hE hn0
    by_cases hlt : k < n
    ·obtain ⟨x, hx⟩ := get_some (xs := subs) (k := k) (by rw [HN.out]; exact hlt)
     obtain ⟨d, hd⟩ := get_some (xs := ds) (k := k) (by rw [HMm.out]; exact hlt)
     obtain ⟨g, a1, a2, a3, a4, a5, rfl, hva, rfl, hg, e0, e1, e2, e3, e4⟩ := HS.out.get hx
     obtain ⟨bd, od, rfl, cd0, hbd⟩ := HQ.out k d hd
     have c0 := HEW.out.keep e0; have c1 := HEW.out.keep e1; have c2' := HEW.out.keep e2; have c3 := HEW.out.keep e3; have c4 := HEW.out.keep e4
     have CD := hid cd0
     have hdb := HDD.out d (List.mem_of_getElem? hd)
     obtain ⟨v, hv⟩ : ∃ v, evalK [a1, a2, a3, a4] pt a5 pt.length = v := ⟨_, rfl⟩
     have hstep : offD ds (subs.map (evalA pt)) 0 = if 0 ≤ v ∧ v < d then offD (ds.drop (k + 1)) ((subs.map (evalA pt)).drop (k + 1)) (nn * d + v) else none := by
      rw [← HOF.out, drop_consG hd, drop_consG (xs := subs.map (evalA pt)) (k := k) (x := v) (by rw [List.getElem?_map, hx]; simp only [Option.map_some]; rw [← hv]; rfl)]
      rfl
     have HV2 := hid hv; have HST := hid hstep; have HVA := hid hva
     clear e0 e1 e2 e3 e4 cd0 hx hd hv hstep hva
     go_wp2_with (fail)
     refine (at_any a1 a2 a3 a4 a5 _ pt _ (HP.out.ext (HEW.out.alloc _)) HVA.out HPB.out).mono ?_
     rw [HV2.out]
     rintro e w3 ⟨rfl, h3⟩
     have HE3 := hid ((HE0.out.alloc _).trans h3); have HEW3 := hid ((HEW.out.alloc _).trans h3)
     have hcd := HEW3.out.keep CD.out
     clear h3 c0 c1 c2' c3 c4 y0 y1
     obtain ⟨y0, y1, -, -⟩ := blk2 (HE3.out.blk B0.out)
     by_cases hv0 : v < 0
     ·have hq1 : decide (v < 0) = true := by simpa using hv0
      have HC1 : Hid (C = -1) := hid (by rw [HCP.out, HST.out, if_neg (by omega)])
      go_wp2
      exact bodyPost_ret (v := .tuple #[.int .i64 0, .bool false]) (by simp [results, Tryz.results78, go_sem]) rfl ⟨by rw [HC1.out]; rfl, HEW3.out⟩
     ·have hq1 : decide (v < 0) = false := by simpa using hv0
      by_cases hvd : d ≤ v
      ·have hq2 : decide (d ≤ v) = true := by simpa using hvd
       have HC1 : Hid (C = -1) := hid (by rw [HCP.out, HST.out, if_neg (by omega)])
       go_wp2
       exact bodyPost_ret (v := .tuple #[.int .i64 0, .bool false]) (by simp [results, Tryz.results78, go_sem]) rfl ⟨by rw [HC1.out]; rfl, HEW3.out⟩
      ·have hq2 : decide (d ≤ v) = false := by simpa using hvd
       have hb : 0 ≤ nn * d ∧ nn * d ≤ 30 := by
        refine mul30 hn2 (hn1 ?_) hdb.1 hdb.2
        omega
       have hz : k = 0 → nn * d = 0 := fun h => by rw [H0.out h]; simp
       have HZ := hid hz
       have HS2 : Hid (offD (ds.drop (k + 1)) ((subs.map (evalA pt)).drop (k + 1)) (nn * d + v) = offD ds (subs.map (evalA pt)) 0) := hid (by rw [HST.out, if_pos (by omega)])
       have hw1 : IntKind.i64.wrap (nn * d) = nn * d := IntWalk.i64_in _ (by omega)
       have hw2 : IntKind.i64.wrap (nn * d + v) = nn * d + v := IntWalk.i64_in _ (by omega)
       clear hz
       go_wp2
       go_roundw
       case rel => exact ⟨k + 1, nn * d + v, by omega, by go_num, rfl, fun h => by omega, fun h => by have := HZ.out (by omega); omega, by omega, by omega, HS2.out, HE3.out⟩
       case measure => simp [intOf]; omega
    ·obtain rfl : k = n := by omega
     have HC1 : Hid (C = f + nn) := hid (by
      have h := HOF.out
      rw [List.drop_eq_nil_of_le (by rw [HMm.out]; omega), List.drop_eq_nil_of_le (by rw [List.length_map, HN.out]; omega)] at h
      rw [HCP.out, ← h]; rfl)
     have hw1 : IntKind.i64.wrap (f + nn) = f + nn := IntWalk.i64_in _ (by omega)
     go_wp2
     exact bodyPost_ret (v := .tuple #[.int .i64 (f + nn), .bool true]) (by simp [results, Tryz.results78, go_sem]) rfl ⟨by rw [HC1.out]; simp only [celV, celB]; rw [if_neg (by omega), decide_eq_true (by omega)], HEW.out⟩
  ·have hq : ((n : Int) != (m : Int)) = true := by simp; omega
   have HC1 : Hid (C = -1) := hid (by
    rw [HCP.out]
    cases hof : offD ds (subs.map (evalA pt)) 0 with
    | none => simp only [hof]
    | some r =>
     have h := offD_len hof
     rw [List.length_map, HMm.out, HN.out] at h
     omega)
   go_enter Tryz.func78, Tryz.ntmps78
   go_wp2_with (first | (at_lookup; refine wpList_lookup_at _ rfl _ _ 51 rfl 9 163 keyStr Tryz.underlying51 rawE (zeroPlace _) _ [] rfl Bm N D rfl ((HM.out.alloc _).alloc _) _ _ rfl (WideMaps.keyOf_string_mk Tryz.underlying9 hlen1) (.agg #[.int .i64 f, .slice q m c2]) true HV.out HH.out ?_) | fail)
   exact bodyPost_ret (v := .tuple #[.int .i64 0, .bool false]) (by simp [results, Tryz.results78, go_sem]) rfl ⟨by rw [HC1.out]; rfl, (((Ext.refl w).alloc _).alloc _).alloc _⟩
end Go.Proofs.YtggpjapmhakklaaGreat
namespace Go.Proofs.YtggpjapmhakklaaGreat
open Go.Lib (hid)
open Go.RowKit Go.Maps
attribute [local go_sem] Oper.semAt_some
theorem wpListIn_append_own_at {F : Fence} {nn : Nat} {P : Program} (w : World) {ops : Array Oper} {rest : List Oper} {o : Oper} {a : Act} {Q : Exit → Act → World → Prop}
  (hg : o.guard = none) (s x : Operand) (t : TypeId) (hop : o.op = Op.call { callee := Callee.builtin Builtin.append, args := #[s, x], argTypes := #[t, t] })
  (base : Nat) (e : TypeId) (i : TypeInfo) (z : Value) (size bytes : Nat) (h1 : P.underlying t = some (.slice e)) (h2 : P.info? e = some i) (h3 : i.zero = some z) (h4 : i.size = size) (h5 : i.bytes = bytes) (h6 : z.cells.size = size) (h7 : 0 < size)
  (v : Value) (k : Nat) (xs : List Value) (hs : a.eval s = v) (hown : w.ownsRow base e size v k xs) (ad : Addr) (m c : Nat) (news : List Value) (hx : a.eval x = .slice (some ad) m c) (hn : news.length = m * size)
  (hc : ∀ j u, news[j]? = some u → w.cell? (ad.add j) = some u) (h1c : ∀ u ∈ news, u.oneCell' = true) (b1 : k + m ≤ maxLen) (b2 : (k + m) * bytes ≤ 140737488355328) (b3 : base ≤ w.heap.size)
  (hK : ∀ v' w', w'.ownsRow base e size v' (k + m) (xs ++ news) → w.grownBy w' v.ownBlock → (v' = .slice none 0 0 ↔ v = .slice none 0 0 ∧ m = 0) → (v'.ownBlock = v.ownBlock ∨ v'.ownBlock = some w.heap.size) → wpListIn F nn P ops Q rest (a.put o.dst v') w') :
  wpListIn F nn P ops Q (o :: rest) a w := by
 refine wpListIn_plain hg fun K hK' => ?_
 obtain ⟨v', w', hrun, r1, r2, r3, r4⟩ := run_append_own_at (P := P) w base t o.type e i z size bytes h1 h2 h3 h4 h5 h6 h7 v k xs hown ad m c news hn hc h1c b1 b2 b3
 unfold Oper.wpIn
 refine ⟨?_, ?_⟩
 ·simp [Oper.about, hop, resolve, Target.leads, Sem.run_pure]
 ·rw [Oper.semAt_plain F _ _ (by rw [hop]; intro c hc'; cases hc')]
  simp [execOp, hop, resolve, invoke, builtin, hs, hx, hrun, Result.andThen]
  exact hK' _ _ (hK v' w' r1 r2 r3 r4)
def EvI (W6 : World) (R1 R2 EB : Nat) (i j : Int) (pv : Value) (f : El → Int) (s : List El) (own : List Nat) (X : World) : Prop :=
 ∃ row p n c, own = R1 :: R2 :: EB :: row ∧ (∀ b ∈ row, W6.heap.size ≤ b) ∧ Lv (fun k => k = EB) W6 X ∧ X.heap[EB]? = some (.cells #[.int .i64 i, .int .i64 j, pv, .slice p n c, .int .i64 0] 124 (0, 0)) ∧ s.length = n ∧
  X.ownsRow W6.heap.size 3 1 (.slice p n c) n ((s.map f).map (Value.int .i64)) ∧ (∀ b, (Value.slice p n c).ownBlock = some b → b ∈ row) ∧ ∀ x ∈ s, 0 ≤ f x
def EvX (W6 : World) (R1 R2 EB : Nat) (f : El → Int) (cd : Code) (s : List El) (_ : List Nat) (X : World) : Prop :=
 cd = .ret ∧ Lv (fun k => k = EB ∨ k = R1 ∨ k = R2) W6 X ∧ X.heap[R1]? = some (.cells #[.int .i64 0, .int .i64 0, .slice none 0 0, .slice none 0 0, .int .i64 0] 124 (0, 0)) ∧ X.heap[R2]? = some (.cells #[.bool false] 4 (0, 0)) ∧ R1 < W6.heap.size ∧ R2 < W6.heap.size ∧ ∃ x ∈ s, f x < 0
theorem EvI.stable (W6 : World) (R1 R2 EB : Nat) (i j : Int) (pv : Value) (f : El → Int) : StableB W6.heap.size (EvI W6 R1 R2 EB i j pv f) := by
 rintro s own X X' ⟨row, p, n, c, rfl, h1, h2, h3, h4, h5, h6, h7⟩ hv
 exact ⟨row, p, n, c, rfl, h1, h2.trans hv (fun _ _ h => h) (fun b hb h => by omega), hv.heap h3 (fun h => h.1 (by simp)), h4, row_lv h5 hv (fun b hb h => h.1 (by simp [h6 b hb])), h6, h7⟩
theorem EvX.stable (W6 : World) (R1 R2 EB : Nat) (f : El → Int) (cd : Code) : StableB W6.heap.size (EvX W6 R1 R2 EB f cd) := by
 rintro s own X X' ⟨rfl, h2, h3, h4, h5, h6, h7⟩ hv
 exact ⟨rfl, h2.trans hv (fun _ _ h => h) (fun b hb h => by omega), hv.heap h3 (fun h => by omega), hv.heap h4 (fun h => by omega), h5, h6, h7⟩
theorem blk5e {W : World} {g : Nat} {a b c d e : Value} {t : TypeId} (h : W.heap[g]? = some (.cells #[a, b, c, d, e] t (0, 0))) : W.cell? ⟨g, 0, none⟩ = some a ∧ W.cell? ⟨g, 1, none⟩ = some b ∧ W.cell? ⟨g, 2, none⟩ = some c ∧ W.cell? ⟨g, 3, none⟩ = some d ∧ W.cell? ⟨g, 4, none⟩ = some e ∧ ∀ j, W.frozen? ⟨g, j, none⟩ = false := by
 simp [World.cell?, World.frozen?, h]
theorem lv_set5 (W : World) (g : Nat) (a b c d e : Value) : Lv (fun k => k = g) W (((((W.setCell ⟨g, 0, none⟩ a).setCell ⟨g, 1, none⟩ b).setCell ⟨g, 2, none⟩ c).setCell ⟨g, 3, none⟩ d).setCell ⟨g, 4, none⟩ e) :=
 ((((lv_set W g 0 a).trans (lv_set _ g 1 b) (fun _ _ h => h) (fun _ _ h => h)).trans (lv_set _ g 2 c) (fun _ _ h => h) (fun _ _ h => h)).trans (lv_set _ g 3 d) (fun _ _ h => h) (fun _ _ h => h)).trans (lv_set _ g 4 e) (fun _ _ h => h) (fun _ _ h => h)
theorem blk5_set3 {W : World} {g : Nat} {a b c d e u : Value} {t : TypeId} (h : W.heap[g]? = some (.cells #[a, b, c, d, e] t (0, 0))) : (W.setCell ⟨g, 3, none⟩ u).heap[g]? = some (.cells #[a, b, c, u, e] t (0, 0)) := by
 have h1 := heap_setCell_same W g 3 _ t u h
 simpa using h1
theorem blk5_set4 {W : World} {g : Nat} {a b c d e u : Value} {t : TypeId} (h : W.heap[g]? = some (.cells #[a, b, c, d, e] t (0, 0))) : (W.setCell ⟨g, 4, none⟩ u).heap[g]? = some (.cells #[a, b, c, d, u] t (0, 0)) := by
 have h1 := heap_setCell_same W g 4 _ t u h
 simpa using h1
theorem event_any (ars : List Arr) (D : DataW Value) (Bm N Bs : Nat) (T i j : Int) (pp ps : Option Addr) (pn pc ns cs : Nat) (pt : List Int) (a : ByteArray) (subs : List Aff) (nv : Value) (xs : List El) (w0 w : World)
  (ho : arrsB ars = true) (hE : Ext w0 w) (hMI : MapIs w0 D ars) (hM : w.ownsMap Tryz.prog 9 rawE Bm N D) (ha : a.size ≤ 9223372036854775807) (hs : LinsOwn Bs w (.slice ps ns cs) subs) (hp : IntsAt w (.slice pp pn pc) pt) (hpb : ptB pt = true)
  (hnd : NdL nv xs) (hel : ∀ x ∈ xs, ElR Bs w x ∧ x.2.1.size ≤ 9223372036854775807) (hxl : xs.length ≤ 1000) :
  Calls Tryz.prog 45 #[.agg #[.map (some Bm), .int .i64 T], .agg #[.int .i64 i, .int .i64 j, .slice pp pn pc], .agg #[.string a, .slice ps ns cs, nv]] w fun e w' =>
   (∃ a1 a2 q1 n1 c1 q2 n2 c2 wv, e = .returned (.tuple #[.agg #[.int .i64 a1, .int .i64 a2, .slice q1 n1 c1, .slice q2 n2 c2, .int .i64 wv], .bool (xs.all (fun x => decide (0 ≤ cellI x.2.1 x.2.2 pt 0 ars)) && decide (0 ≤ cellI a subs pt 0 ars))]) ∧
    ((xs.all (fun x => decide (0 ≤ cellI x.2.1 x.2.2 pt 0 ars)) && decide (0 ≤ cellI a subs pt 0 ars)) = true → a1 = i ∧ a2 = j ∧ Value.slice q1 n1 c1 = .slice pp pn pc ∧ wv = cellI a subs pt 0 ars ∧ IntsOwn w.heap.size w' (.slice q2 n2 c2) (xs.map (fun x => cellI x.2.1 x.2.2 pt 0 ars)))) ∧ Ext w w' := by
 obtain ⟨tn, xn, rfl⟩ := hnd.iface
 have HO := hid ho; have HE := hid hE; have HMI := hid hMI; have HM := hid hM; have HA := hid ha; have HS := hid hs; have HP := hid hp; have HPB := hid hpb; have HND := hid hnd; have HEL := hid hel; have HXL := hid hxl
 clear ho hE hMI hM ha hs hp hpb hnd hel hxl
 refine (callsIn_wide (n := 6)).1 ?_
 refine callsIn_of_wp_marks Tryz.func45 rfl trivial ?_ rfl
 simp only [Tryz.ntmps45, List.size_toArray, List.length_cons, List.length_nil, Nat.reduceAdd, Nat.reduceSub, Array.replicate_succ, Array.replicate_zero, List.push_toArray, List.append_toArray, List.nil_append, List.cons_append]
 have hdd : ∀ j : Nat, (Fence.wide.depth.isSome = true → 1 ≤ j) := fun j h => by cases h
 generalize hga : w.heap.size = ga at *
 have HGA := hid hga
 gi_wp2_with (fail)
 refine ⟨trivial, ?_⟩
 refine (callsIn_wide.2 (reads_call a ps ns cs _ _ ⟨_, _, rfl⟩)).mono ?_
 rintro e w1 ⟨rfl, rfl⟩
 obtain ⟨wA, hwA⟩ : ∃ wA, (((w.alloc (.cells #[.map (some Bm), .int .i64 T] 53)).alloc (.cells #[.int .i64 i, .int .i64 j, .slice pp pn pc] 105)).alloc (.cells #[.string a, .slice ps ns cs, .iface tn xn] 122)) = wA := ⟨_, rfl⟩
 have hsA : wA.heap.size = ga + 1 + 1 + 1 := by rw [← hwA]; simp [HGA.out]
 have A0 : wA.heap[ga]? = some (.cells #[.map (some Bm), .int .i64 T] 53 (0, 0)) := by rw [← hwA]; exact blk_old (blk_old (blk_at HGA.out.symm))
 have A1 : wA.heap[ga + 1]? = some (.cells #[.int .i64 i, .int .i64 j, .slice pp pn pc] 105 (0, 0)) := by rw [← hwA]; exact blk_old (blk_at (by simp [HGA.out]))
 have A2 : wA.heap[ga + 1 + 1]? = some (.cells #[.string a, .slice ps ns cs, .iface tn xn] 122 (0, 0)) := by rw [← hwA]; exact blk_at (by simp [HGA.out])
 have EA : Ext w wA := by rw [← hwA]; exact (((Ext.refl w).alloc _).alloc _).alloc _
 rw [hwA]
 obtain ⟨wB, hwB⟩ : ∃ wB, ((wA.alloc (.cells #[.int .i64 0, .int .i64 0, .slice none 0 0, .slice none 0 0, .int .i64 0] 124)).alloc (.cells #[.bool false] 4)) = wB := ⟨_, rfl⟩
 have hsB : wB.heap.size = ga + 1 + 1 + 1 + 1 + 1 := by rw [← hwB]; simp [hsA]
 have EB : Ext wA wB := by rw [← hwB]; exact ((Ext.refl wA).alloc _).alloc _
 have B3 : wB.heap[ga + 1 + 1 + 1]? = some (.cells #[.int .i64 0, .int .i64 0, .slice none 0 0, .slice none 0 0, .int .i64 0] 124 (0, 0)) := by rw [← hwB]; exact blk_old (blk_at hsA.symm)
 have B4 : wB.heap[ga + 1 + 1 + 1 + 1]? = some (.cells #[.bool false] 4 (0, 0)) := by rw [← hwB]; exact blk_at (by simp [hsA])
 rw [hwB]
 obtain ⟨W6, hW6⟩ : ∃ W6, ((wB.alloc (.cells #[.int .i64 i, .int .i64 j, .slice pp pn pc, .slice none 0 0, .int .i64 0] 124)).alloc (.cells #[.string a, .slice ps ns cs, .iface tn xn] 122)) = W6 := ⟨_, rfl⟩
 have hs6 : W6.heap.size = ga + 7 := by rw [← hW6]; simp [hsB]
 have E6' : Ext wB W6 := by rw [← hW6]; exact ((Ext.refl wB).alloc _).alloc _
 have EC := EB.trans E6'
 have K0 := hid (EC.blk A0); have K1 := hid (EC.blk A1); have K2 := hid (EC.blk A2); have K3 := hid (E6'.blk B3); have K4 := hid (E6'.blk B4)
 have K5 : Hid (W6.heap[ga + 1 + 1 + 1 + 1 + 1]? = some (.cells #[.int .i64 i, .int .i64 j, .slice pp pn pc, .slice none 0 0, .int .i64 0] 124 (0, 0))) := hid (by rw [← hW6]; exact blk_old (blk_at hsB.symm))
 have K6 : Hid (W6.heap[ga + 1 + 1 + 1 + 1 + 1 + 1]? = some (.cells #[.string a, .slice ps ns cs, .iface tn xn] 122 (0, 0))) := hid (by rw [← hW6]; exact blk_at (by simp [hsB]))
 have E6 := hid (EA.trans EC)
 have HS6 := hid hs6
 simp only [World.size_alloc, hsB]
 rw [hW6]
 clear hW6 hwA hwB hsA hsB A0 A1 A2 EA EB B3 B4 E6' EC hs6
 gi_wp2_with (fail)
 have hs6 := HS6.out
 refine wpIn_rangeFunc_baseA (w := W6) rfl (hdd _) (gf := 109) (lb := #[.pointer (some ⟨ga + 1 + 1 + 1 + 1 + 1 + 1, 0, none⟩)]) rfl trivial (enters_of Tryz.func109 (by kernel_rfl) rfl)
  W6.heap.size (Nat.le_refl _) (reads_seqB W6.heap.size _ _ _ _ _ xs _ (fun _ => False) W6 HND.out (fun b h => h.elim) K6.out)
  (fun b h => h.elim) (fun b h => h) (fun x W1 W2 h _ => h) (fun W1 W2 _ _ => trivial) (fun _ => rfl)
  (EvI W6 (ga + 1 + 1 + 1) (ga + 1 + 1 + 1 + 1) (ga + 1 + 1 + 1 + 1 + 1) i j (.slice pp pn pc) (fun x => cellI x.2.1 x.2.2 pt 0 ars)) (EvX W6 (ga + 1 + 1 + 1) (ga + 1 + 1 + 1 + 1) (ga + 1 + 1 + 1 + 1 + 1) (fun x => cellI x.2.1 x.2.2 pt 0 ars)) (EvI.stable _ _ _ _ _ _ _ _) (fun cd => EvX.stable _ _ _ _ _ cd) [ga + 1 + 1 + 1, ga + 1 + 1 + 1 + 1, ga + 1 + 1 + 1 + 1 + 1]
  (fun b hb => ⟨by simp at hb; omega, fun h => h⟩) ⟨[], none, 0, 0, rfl, by simp, Lv.refl _ _, K5.out, rfl, World.ownsRow_nil _ _ _ _, by simp [Value.ownBlock], by simp⟩
  (fun (x : El) (a' : Act) (X : World) => ∃ g p n c, x.1 = .agg #[.string x.2.1, .slice p n c] ∧ LinsOwn Bs w (.slice p n c) x.2.2 ∧ x.2.1.size ≤ 9223372036854775807 ∧ X.heap[g]? = some (.cells #[.string x.2.1, .slice p n c] 118 (0, 0)) ∧ a' = { tmps := #[.agg #[.map (some Bm), .int .i64 T], .agg #[.int .i64 i, .int .i64 j, .slice pp pn pc], .agg #[.string a, .slice ps ns cs, .iface tn xn], .pointer (some ⟨ga, 0, none⟩), .pointer (some ⟨ga + 1, 0, none⟩), .pointer (some ⟨ga + 1 + 1, 0, none⟩), .pointer (some ⟨ga + 1 + 1 + 1, 0, none⟩), .pointer (some ⟨ga + 1 + 1 + 1 + 1, 0, none⟩), .pointer (some ⟨ga + 1 + 1 + 1 + 1 + 1, 0, none⟩), .pointer (some ⟨g, 0, none⟩), undef, undef, undef, undef, .agg #[.int .i64 i, .int .i64 j, .slice pp pn pc], .agg #[.int .i64 i, .int .i64 j, .slice pp pn pc, .slice none 0 0, .int .i64 0], .agg #[.string a, .slice ps ns cs, .iface tn xn], .func (.func 109) #[] #[.pointer (some ⟨ga + 1 + 1 + 1 + 1 + 1 + 1, 0, none⟩)], x.1, undef, undef, undef, undef, undef, undef, undef, undef, undef, undef, undef, undef, undef, undef, undef, undef, undef, undef, undef, undef, undef, undef, undef, undef, undef, undef, undef, undef, undef, undef], defers := [] })
  ?ast ?assign ?body ?done ?stop
 case ast =>
  rintro x a' W W' l o ⟨g, p, n, c, h1, h2, h3, h4, h5⟩ ho hv
  exact ⟨g, p, n, c, h1, h2, h3, hv.heap h4 (fun e => by subst e; rw [h4] at ho; cases ho), h5⟩
 case assign =>
  intro l2 y X K hy hK
  obtain ⟨⟨p, n, c, e1, hl⟩, hsz⟩ := HEL.out y hy
  obtain ⟨v, arr, sb⟩ := y
  dsimp only at e1 hl hsz
  subst e1
  gi_wp2
  exact hK _ _ (Lv.alloc _ X _) ⟨X.heap.size, p, n, c, rfl, hl, hsz, blk_at rfl, rfl⟩
 case body =>
  rintro l2 pre0 y ow a' X ⟨row, pr, nr, cr, rfl, hrow, hLV, hEB, hnr, hown, hblk, hpos⟩ hpx hrx hob ⟨g, p, n, c, e1, hl, hsz, hg, rfl⟩
  obtain ⟨v, arr, sb⟩ := y
  dsimp only at e1 hl hsz hg
  subst e1
  have EX := hid (hLV.ext0 E6.out (fun b hb h => by rw [HGA.out] at hb; omega))
  have X0 := hid (hLV.heap K0.out (by omega)); have X1 := hid (hLV.heap K1.out (by omega)); have X3 := hid (hLV.heap K3.out (by omega)); have X4 := hid (hLV.heap K4.out (by omega))
  have X5 := hid hEB; have XG := hid hg
  obtain ⟨cv, hcv⟩ : ∃ cv, cellI arr sb pt 0 ars = cv := ⟨_, rfl⟩
  have HCV := hid hcv; have HL := hid hl; have HSZ := hid hsz; have HROW := hid hrow; have HLV := hid hLV; have HNR := hid hnr; have HOWN := hid hown; have HBLK := hid hblk; have HPOS := hid hpos; have HOB := hid hob; have HPX := hid hpx
  obtain ⟨y0, y1, -, -⟩ := blk2 hg
  obtain ⟨l0, l1, -, -⟩ := blk2 X0.out
  obtain ⟨i0, i1, i2⟩ := blk3 X1.out
  clear hLV hEB hg hcv hl hsz hrow hnr hown hblk hpos hob hpx hrx
  have hlX : ∀ b ∈ (ga + 1 + 1 + 1) :: (ga + 1 + 1 + 1 + 1) :: (ga + 1 + 1 + 1 + 1 + 1) :: row, b < X.heap.size := fun b hb => (HOB.out b hb).1
  have HLX := hid hlX
  have hcall := cell_any ars arr (.slice p n c) (.slice pp pn pc) sb pt T Bm Bs N D w0 X HO.out (HE.out.trans EX.out) HMI.out (HM.out.kept (EX.out.grownBy none) (by simp)) HSZ.out (HL.out.ext EX.out) (HP.out.ext EX.out) HPB.out
  rw [HCV.out] at hcall
  have HCALL := hid hcall
  clear hcall hlX
  gi_wp2_with (fail)
  refine ⟨trivial, ?_⟩
  refine CallsIn.mono (F := Fence.wide.inRound l2) (callsIn_wide.2 HCALL.out) ?_
  rintro e w3 ⟨rfl, h3⟩
  have HX3 := hid h3
  have Y3 := hid (h3.blk X3.out); have Y4 := hid (h3.blk X4.out); have Y5 := hid (h3.blk X5.out)
  have HS3 := hid h3.size_le
  have hx6 := HLV.out.size
  have HX6 := hid hx6
  clear h3 y0 y1 l0 l1 i0 i1 i2 hx6
  by_cases hc0 : 0 ≤ cv
  ·have hb : celB cv = true := decide_eq_true hc0
   have hvv : celV cv = cv := if_neg (by omega)
   rw [hb, hvv]
   obtain ⟨i0, hi, hz0, hz1, hz2⟩ := info_parts infoInt
   obtain ⟨y0, y1, y2, y3, y4, yf⟩ := blk5e Y5.out
   have HOW3 := hid (ownsRow_ext HOWN.out HX3.out)
   have hn1 : nr ≤ 1000 := by
    have h1 := HPX.out.length_le
    have h2 := HXL.out
    rw [List.length_append, HNR.out] at h1
    omega
   clear hb hvv
   gi_wp2_with (first | (gi_at_builtin; refine wpListIn_append_own_at _ rfl (.tmp 31) (.tmp 33) 27 rfl W6.heap.size 3 i0 (.int .i64 0) 1 8 Tryz.underlying27 hi hz0 hz1 hz2 rfl (by decide) (.slice pr nr cr) nr _ rfl (HOW3.out.alloc (.cells #[.int .i64 cv] 3)) ⟨w3.heap.size, 0, none⟩ 1 1 [.int .i64 cv] rfl rfl (one_cell rfl) (by intro u hu; simp at hu; subst hu; rfl) (by unfold maxLen; omega) (by omega) (by have h1 := HX6.out; have h2 := HS3.out; simp; omega) ?_; intro v' w4 hown4 hgr4 hnil4 hat4; obtain ⟨gq, dq, rfl, hdq⟩ := own_form' hown4 (fun e => by have := (hnil4.1 e).2; omega); have HB4 := grownBy_blk hgr4 (blk_old (o := .cells #[.int .i64 cv] 3) Y5.out) (fun e => by have h1 := HROW.out _ (HBLK.out _ e.symm); have h2 := HS6.out; omega); have yf4 := (blk5e HB4).2.2.2.2.2; have y34 := (blk5e HB4).2.2.2.1) | fail)
   have hs6 := HS6.out; have hx6 := HX6.out; have hsz3 := HS3.out
   obtain ⟨wA, hwA⟩ : ∃ wA, w3.alloc (.cells #[.int .i64 cv] 3) = wA := ⟨_, rfl⟩
   have hlvA : Lv (fun _ => False) X wA := by rw [← hwA]; exact (HX3.out.alloc _).lv
   have hsA : wA.heap.size = w3.heap.size + 1 := by rw [← hwA]; simp
   rw [hwA] at hgr4 hat4
   have hl34 : Lv (fun k => (Value.slice pr nr cr).ownBlock = some k) wA w4 := Lv.grown hgr4 (fun r e _ => e)
   have hX4 : Lv (fun k => k ∈ row) X w4 := hlvA.trans hl34 (fun _ _ h => h.elim) (fun b _ h => HBLK.out b h)
   have GQ : gq ∈ row ∨ X.heap.size ≤ gq := by
    rcases hat4 with h | h
    ·exact .inl (HBLK.out gq h.symm)
    ·simp only [Value.ownBlock, Option.some.injEq] at h; exact .inr (by omega)
   have hgl := (hown4.lt gq rfl).2
   have hgW : W6.heap.size ≤ gq := by
    rcases GQ with h | h
    ·exact HROW.out gq h
    ·omega
   have hset := lv_set w4 (ga + 1 + 1 + 1 + 1 + 1) 3 (.slice (some ⟨gq, 0, none⟩) (nr + 1) dq)
   have hL5 : Lv (fun k => k ∈ (ga + 1 + 1 + 1) :: (ga + 1 + 1 + 1 + 1) :: (ga + 1 + 1 + 1 + 1 + 1) :: row) X (w4.setCell ⟨ga + 1 + 1 + 1 + 1 + 1, 3, none⟩ (.slice (some ⟨gq, 0, none⟩) (nr + 1) dq)) := hX4.trans hset (fun b _ h => by simp [h]) (fun b _ h => by simp [h])
   have hs45 := hX4.size
   refine ⟨(ga + 1 + 1 + 1) :: (ga + 1 + 1 + 1 + 1) :: (ga + 1 + 1 + 1 + 1 + 1) :: (row ++ [gq]), ⟨hL5, fun b hb => ?_⟩, row ++ [gq], some ⟨gq, 0, none⟩, nr + 1, dq, rfl, fun b hb => ?_, ?_, blk5_set3 HB4, by simp [HNR.out], ?_, fun b hb => ?_, fun x hx => ?_⟩
   ·simp only [List.mem_cons, List.mem_append, List.not_mem_nil, or_false] at hb
    have hlx := HLX.out
    simp only [World.size_setCell, List.mem_cons] at hlx ⊢
    rcases hb with hb | hb | hb | hb | hb
    ·exact ⟨.inl (.inl hb), by have := hlx b (.inl hb); omega⟩
    ·exact ⟨.inl (.inr (.inl hb)), by have := hlx b (.inr (.inl hb)); omega⟩
    ·exact ⟨.inl (.inr (.inr (.inl hb))), by have := hlx b (.inr (.inr (.inl hb))); omega⟩
    ·exact ⟨.inl (.inr (.inr (.inr hb))), by have := hlx b (.inr (.inr (.inr hb))); omega⟩
    ·subst hb
     rcases GQ with h | h
     ·exact ⟨.inl (.inr (.inr (.inr h))), hgl⟩
     ·exact ⟨.inr h, hgl⟩
   ·rcases List.mem_append.1 hb with h | h
    ·exact HROW.out b h
    ·simp at h; omega
   ·exact (HLV.out.trans hX4 (E := fun k => k = ga + 1 + 1 + 1 + 1 + 1) (fun _ _ h => h) (fun b hb h => by have := HROW.out b h; omega)).trans hset (fun _ _ h => h) (fun _ _ h => h)
   ·have e : ((pre0 ++ [(Value.agg #[.string arr, .slice p n c], arr, sb)]).map (fun x : El => cellI x.2.1 x.2.2 pt 0 ars)).map (Value.int .i64) = (pre0.map (fun x : El => cellI x.2.1 x.2.2 pt 0 ars)).map (Value.int .i64) ++ [.int .i64 cv] := by simp [HCV.out]
    rw [e]
    exact row_lv hown4 hset (fun b hb h => by simp [Value.ownBlock] at hb; omega)
   ·simp [Value.ownBlock] at hb; subst hb; simp
   ·rcases List.mem_append.1 hx with h | h
    ·exact HPOS.out x h
    ·simp only [List.mem_cons, List.not_mem_nil, or_false] at h
     subst h
     show 0 ≤ cellI arr sb pt 0 ars
     rw [HCV.out]; exact hc0
  ·have hb : celB cv = false := decide_eq_false hc0
   have hvv : celV cv = 0 := if_pos (by omega)
   rw [hb, hvv]
   obtain ⟨y0, y1, y2, y3, y4, yf⟩ := blk5e Y3.out
   obtain ⟨z0, zf⟩ := blk1 Y4.out
   clear hb hvv
   gi_wp2
   have hz := blk5_set (a' := .int .i64 0) (b' := .int .i64 0) (c' := .slice none 0 0) (d' := .slice none 0 0) (k' := .int .i64 0) Y3.out
   have hv := lv_set5 w3 (ga + 1 + 1 + 1) (.int .i64 0) (.int .i64 0) (.slice none 0 0) (.slice none 0 0) (.int .i64 0)
   generalize (((((w3.setCell ⟨ga + 1 + 1 + 1, 0, none⟩ (.int .i64 0)).setCell ⟨ga + 1 + 1 + 1, 1, none⟩ (.int .i64 0)).setCell ⟨ga + 1 + 1 + 1, 2, none⟩ (.slice none 0 0)).setCell ⟨ga + 1 + 1 + 1, 3, none⟩ (.slice none 0 0)).setCell ⟨ga + 1 + 1 + 1, 4, none⟩ (.int .i64 0)) = w4 at *
   have hs6 := HS6.out
   have hv2 := hv.trans (lv_set w4 (ga + 1 + 1 + 1 + 1) 0 (.bool false)) (E := fun k => k = ga + 1 + 1 + 1 ∨ k = ga + 1 + 1 + 1 + 1) (fun _ _ h => .inl h) (fun _ _ h => .inr h)
   have hv3 := (HX3.out.lv (D := fun _ => False)).trans hv2 (E := fun k => k = ga + 1 + 1 + 1 ∨ k = ga + 1 + 1 + 1 + 1) (fun _ _ h => h.elim) (fun _ _ h => h)
   exact ⟨_, Grew.same (hv3.mono (fun b _ h => by rcases h with rfl | rfl <;> simp)) HLX.out, rfl, HLV.out.trans hv3 (fun _ _ h => .inl h) (fun _ _ h => .inr h), blk_off hz (by omega) _, blk1_set (hv.heap Y4.out (by omega)), by omega, by omega, (.agg #[.string arr, .slice p n c], (arr, sb)), by simp, by show cellI arr sb pt 0 ars < 0; rw [HCV.out]; omega⟩
 case done =>
  rintro E ow X hE6 hEn ⟨row, pr, nr, cr, rfl, hrow, hLV, hEB, hnr, hown, hblk, hpos⟩ hob hv6 hz hdf
  have HXS : Hid (xs.all (fun x => decide (0 ≤ cellI x.2.1 x.2.2 pt 0 ars)) = true) := hid (List.all_eq_true.2 (fun x hx => by have h := hpos x hx; simpa using h))
  have EX := hid (hLV.ext0 E6.out (fun b hb h => by rw [HGA.out] at hb; omega))
  have X0 := hid (hLV.heap K0.out (by omega)); have X1 := hid (hLV.heap K1.out (by omega)); have X2 := hid (hLV.heap K2.out (by omega)); have X3 := hid (hLV.heap K3.out (by omega)); have X4 := hid (hLV.heap K4.out (by omega))
  have X5 := hid hEB; have XE := hid hdf
  obtain ⟨cw, hcw⟩ : ∃ cw, cellI a subs pt 0 ars = cw := ⟨_, rfl⟩
  have HCW := hid hcw; have HROW := hid hrow; have HNR := hid hnr; have HOWN := hid hown; have HBLK := hid hblk
  have HEE : Hid (ga + 7 ≤ E) := hid (by omega)
  have HEN : Hid (E ∉ row) := hid (fun h => hEn (by simp [h]))
  obtain ⟨l0, l1, -, -⟩ := blk2 X0.out
  obtain ⟨i0, i1, i2⟩ := blk3 X1.out
  obtain ⟨t0, t1, t2⟩ := blk3 X2.out
  have hcall := cell_any ars a (.slice ps ns cs) (.slice pp pn pc) subs pt T Bm Bs N D w0 X HO.out (HE.out.trans EX.out) HMI.out (HM.out.kept (EX.out.grownBy none) (by simp)) HA.out (HS.out.ext EX.out) (HP.out.ext EX.out) HPB.out
  rw [hcw] at hcall
  have HCALL := hid hcall
  clear hrow hLV hEB hnr hown hblk hpos hob hv6 hz hdf hcw hcall hE6 hEn
  gi_wp2_with (fail)
  refine ⟨trivial, ?_⟩
  refine (callsIn_wide.2 HCALL.out).mono ?_
  rintro e w3 ⟨rfl, h3⟩
  have HX3 := hid h3
  have Y3 := hid (h3.blk X3.out); have Y4 := hid (h3.blk X4.out); have Y5 := hid (h3.blk X5.out); have YE := hid (h3.blk XE.out)
  obtain ⟨y0, y1, y2, y3, y4, yf⟩ := blk5e Y5.out
  clear h3 l0 l1 i0 i1 i2 t0 t1 t2
  obtain ⟨w4, hw4⟩ : ∃ w4, w3.setCell ⟨ga + 1 + 1 + 1 + 1 + 1, 4, none⟩ (.int .i64 (celV cw)) = w4 := ⟨_, rfl⟩
  have hl4 : Lv (fun k => k = ga + 1 + 1 + 1 + 1 + 1) w3 w4 := by rw [← hw4]; exact lv_set _ _ _ _
  have Z5 := hid (show w4.heap[ga + 1 + 1 + 1 + 1 + 1]? = some (.cells #[.int .i64 i, .int .i64 j, .slice pp pn pc, .slice pr nr cr, .int .i64 (celV cw)] 124 (0, 0)) by rw [← hw4]; exact blk5_set4 Y5.out)
  have Z3 := hid (hl4.heap Y3.out (by omega)); have Z4 := hid (hl4.heap Y4.out (by omega)); have hE7 := HEE.out
  have ZE := hid (hl4.heap YE.out (by omega))
  obtain ⟨v0, v1, v2, v3, v4, vf⟩ := blk5e Z5.out
  obtain ⟨u0, u1, u2, u3, u4, uf⟩ := blk5e Z3.out
  obtain ⟨q0, qf⟩ := blk1 Z4.out
  obtain ⟨vw, hvw⟩ : ∃ vw, celV cw = vw := ⟨_, rfl⟩
  obtain ⟨bw, hbw⟩ : ∃ bw, celB cw = bw := ⟨_, rfl⟩
  rw [hvw] at hw4 Z5 v4
  rw [hvw, hbw]
  have HVW := hid hvw; have HBW := hid hbw
  clear hvw hbw hE7
  subst hw4
  gi_wp2
  obtain ⟨w4, hw4⟩ : ∃ w4, w3.setCell ⟨ga + 1 + 1 + 1 + 1 + 1, 4, none⟩ (.int .i64 vw) = w4 := ⟨_, rfl⟩
  rw [hw4] at hl4 Z3 Z4 Z5 ZE
  rw [hw4]
  have hz := blk5_set (a' := .int .i64 i) (b' := .int .i64 j) (c' := .slice pp pn pc) (d' := .slice pr nr cr) (k' := .int .i64 vw) Z3.out
  have hv := lv_set5 w4 (ga + 1 + 1 + 1) (.int .i64 i) (.int .i64 j) (.slice pp pn pc) (.slice pr nr cr) (.int .i64 vw)
  obtain ⟨w5, hw5⟩ : ∃ w5, (((((w4.setCell ⟨ga + 1 + 1 + 1, 0, none⟩ (.int .i64 i)).setCell ⟨ga + 1 + 1 + 1, 1, none⟩ (.int .i64 j)).setCell ⟨ga + 1 + 1 + 1, 2, none⟩ (.slice pp pn pc)).setCell ⟨ga + 1 + 1 + 1, 3, none⟩ (.slice pr nr cr)).setCell ⟨ga + 1 + 1 + 1, 4, none⟩ (.int .i64 vw)) = w5 := ⟨_, rfl⟩
  rw [hw5] at hz hv
  rw [hw5]
  have hv6 := lv_set w5 (ga + 1 + 1 + 1 + 1) 0 (.bool bw)
  have hE7 := HEE.out; have hs6 := HS6.out
  have KB1 := hid (blk_off (g' := ga + 1 + 1 + 1 + 1) (o' := 0) hz (by omega) (.bool bw))
  have KB2 := hid (blk1_set (b := .bool bw) (hv.heap Z4.out (by omega)))
  have KE := hid (hv6.heap (hv.heap ZE.out (by omega)) (by omega))
  have hvv : Lv (fun k => k = ga + 1 + 1 + 1 + 1 + 1 ∨ k = ga + 1 + 1 + 1 ∨ k = ga + 1 + 1 + 1 + 1) X (w5.setCell ⟨ga + 1 + 1 + 1 + 1, 0, none⟩ (.bool bw)) := (((HX3.out.lv (D := fun _ => False)).trans hl4 (E := fun k => k = ga + 1 + 1 + 1 + 1 + 1) (fun _ _ h => h.elim) (fun _ _ h => h)).trans hv (E := fun k => k = ga + 1 + 1 + 1 + 1 + 1 ∨ k = ga + 1 + 1 + 1) (fun _ _ h => .inl h) (fun _ _ h => .inr h)).trans hv6 (fun b _ h => h.elim .inl (fun h => .inr (.inl h))) (fun b _ h => .inr (.inr h))
  have HVV := hid hvv
  refine leaves_marks2 [E] _ (fun E' h => by simp at h; subst h; exact KE.out) (by simp) (fun W' hW' => ?_)
  obtain ⟨r0, r1, r2, r3, r4, -⟩ := blk5e (hW'.heap KB1.out (by simp; omega))
  obtain ⟨rb, -⟩ := blk1 (hW'.heap KB2.out (by simp; omega))
  have hfin : Lv (fun k => k = E ∨ k = ga + 1 + 1 + 1 + 1 + 1 ∨ k = ga + 1 + 1 + 1 ∨ k = ga + 1 + 1 + 1 + 1) X W' := HVV.out.trans hW' (fun _ _ h => .inr h) (fun _ _ h => .inl (by simpa using h))
  refine ⟨.tuple #[.agg #[.int .i64 i, .int .i64 j, .slice pp pn pc, .slice pr nr cr, .int .i64 vw], .bool bw], by simp [results, Tryz.results45, go_sem, r0, r1, r2, r3, r4, rb], ⟨_, _, _, _, _, _, _, _, _, by rw [HXS.out, ← HBW.out, HCW.out]; rfl, fun h => ⟨rfl, rfl, rfl, ?_, ?_⟩⟩, hfin.ext0 EX.out (fun b hb h => by rw [HGA.out] at hb; omega)⟩
  ·rw [← HVW.out, HCW.out]
   rw [HXS.out, HCW.out, Bool.true_and, decide_eq_true_eq] at h
   exact if_neg (by omega)
  ·refine IntsOwn.mk (n := nr) (ownsRow_weak (row_lv HOWN.out hfin (fun b hb h => ?_)) (by omega)) (by rw [List.length_map, HNR.out])
   have h1 := HBLK.out b hb
   have h2 := HROW.out b h1
   rcases h with h | h
   ·exact HEN.out (h ▸ h1)
   ·omega
 case stop =>
  rintro E cd q ow X hE6 hEn hq ⟨rfl, hLV, h3, h4, h5, h6, x, hx, hneg⟩ hob hv6 hz hdf
  have HXS : Hid (xs.all (fun x => decide (0 ≤ cellI x.2.1 x.2.2 pt 0 ars)) = false) := hid (by
   cases hall : xs.all (fun x => decide (0 ≤ cellI x.2.1 x.2.2 pt 0 ars)) with
   | false => rfl
   | true =>
    have h := List.all_eq_true.1 hall x (hq.subset hx)
    simp only [decide_eq_true_eq] at h
    dsimp only at hneg
    omega)
  have HN1 : Hid (ga + 1 + 1 + 1 ≠ E) := hid (by omega); have HN2 : Hid (ga + 1 + 1 + 1 + 1 ≠ E) := hid (by omega)
  have KE := hid hdf; have KB1 := hid h3; have KB2 := hid h4
  have HEX := hid (hLV.ext0 E6.out (fun b hb h => by rw [HGA.out] at hb; omega))
  have HEE : Hid (ga < E) := hid (by omega)
  clear h3 h4 h5 h6 hx hneg hob hv6 hz hdf hq hLV hEn hE6
  gi_wp2
  refine leaves_marks2 [E] _ (fun E' h => by simp at h; subst h; exact KE.out) (by simp) (fun W' hW' => ?_)
  obtain ⟨r0, r1, r2, r3, r4, -⟩ := blk5e (hW'.heap KB1.out (by simpa using HN1.out))
  obtain ⟨rb, -⟩ := blk1 (hW'.heap KB2.out (by simpa using HN2.out))
  refine ⟨.tuple #[.agg #[.int .i64 0, .int .i64 0, .slice none 0 0, .slice none 0 0, .int .i64 0], .bool false], by simp [results, Tryz.results45, go_sem, r0, r1, r2, r3, r4, rb], ⟨_, _, _, _, _, _, _, _, _, by rw [HXS.out]; rfl, fun h => by rw [HXS.out] at h; cases h⟩, hW'.ext0 HEX.out (fun b hb h => by have := HEE.out; rw [HGA.out] at hb; simp at h; omega)⟩
end Go.Proofs.YtggpjapmhakklaaGreat
