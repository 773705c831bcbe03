/- The texts G15 G16, joined. No statement is proved here. -/
import Derived.Test.YtklehkkclojccaaGreatQL06
import Derived.Test.YtklehkkclojccaaGreatQL07
import Derived.Test.YtklehkkclojccaaGreatQL12
import Derived.Test.YtklehkkclojccaaGreatQL20
import Derived.Test.YtklehkkclojccaaGreatQL13
set_option maxRecDepth 100000
set_option maxHeartbeats 8000000
set_option linter.unusedVariables false
set_option linter.unusedSimpArgs false
namespace Go.Proofs.YtklehkkclojccaaGreat
open Go renaming undef → uZ
open Go.Lib (hid)
section
open Go.RowKit Go.Maps
theorem jXa {H : Type} {P : Program} (w : World) {ops : Array Oper} {rest : List Oper} {o : Oper} {a : Act} {Q : Exit -> Act -> World -> Prop}
  (hg : o.guard = none) (m x : Operand) (t : TypeId) (hop : o.op = Op.lookup t m x true)
  (k e : TypeId) (K : Keyed P k) (ht : P.underlying t = some (.map k e)) (R : Value -> Option (DataW H × List MemPlace)) {z : Value} (hz : (zeroValue e).run P w = .ok z w) (zd : DataW H) (zp : List MemPlace) (hzd : R z = some (zd, zp)) (b n : Nat) (D : DataW H)
  (hm : a.eval m = .map (some b)) (hown : w.ownsMap P k R b n D) (key : Value) (kl : Lit) (hx : a.eval x = key) (hkey : keyOf P k key = some kl)
  (V : Value) (q : Bool) (hV : ∀ v ps, R v = some (D.atKey kl zd, ps) -> v = V) (hh : Maps.has D kl = q)
  (hK : wpList P ops Q rest (a.put o.dst (.tuple #[V, .bool q])) w) : wpList P ops Q (o :: rest) a w :=
 wpList_lookup_own_ok w hg m x t hop k e K ht R hz zd zp hzd b n D hm hown key kl hx hkey (fun v ps h => by rw [hV v ps h, hh]; exact hK)
theorem jVL (w : World) : (zeroValue 245).run Tryz.prog w = .ok (.agg #[.int .i64 0, .slice none 0 0]) w := by kernel_rfl
theorem mul30 {x d : Int} (h1 : 0 <= x) (h2 : x <= 5) (h3 : 1 <= d) (h4 : d <= 6) : 0 <= x * d /\ x * d <= 30 := by
 have a := Int.mul_nonneg h1 (show 0 <= d by omega)
 have b := Int.mul_nonneg (show 0 <= 5 - x by omega) (show 0 <= d by omega)
 rw [Int.sub_mul] at b
 omega
theorem jY0I {nm : ByteArray} {f : Int} {ds : List Int} : ∀ {l : List Arr} {b : Int}, (∀ a ∈ l, arrOkB a = true) -> jZS nm b l = some (f, ds) -> ((1 <= ds.length /\ ds.length <= 2) /\ ∀ d ∈ ds, 1 <= d /\ d <= 6) /\ b <= f /\ f <= b + totN l
 | [], _, _, h => by simp [jZS] at h
 | a :: r, b, ho, h => by
  have hok := jZA (ho a (by simp)); have hd := jWH hok.2.1 hok.2.2; have ht := jWp (ars := r) (fun x hx => ho x (by simp [hx])); have e : totN (a :: r) = dimsN a.2 + totN r := by simp [totN]
  unfold jZS at h
  split at h
  ·simp only [Option.some.injEq, Prod.mk.injEq] at h
   obtain ⟨rfl, rfl⟩ := h; exact ⟨hok.2, by omega, by omega⟩
  ·obtain ⟨h1, h2, h3⟩ := jY0I (fun x hx => ho x (by simp [hx])) h
   exact ⟨h1, by omega, by omega⟩
def celV (c : Int) : Int := if c < 0 then 0 else c
def celB (c : Int) : Bool := decide (0 <= c)
theorem jY3I (ars : List Arr) (arr : ByteArray) (s pv : Value) (subs : List Aff) (pt : List Int) (T : Int) (Bm Bs N : Nat) (D : DataW Value) (w0 w : World) (ho : arrsB ars = true) (hE : Ext w0 w) (hMI : MapIs w0 D ars) (hM : w.ownsMap Tryz.prog 9 rawE Bm N D) (ha : arr.size <= 9223372036854775807) (hs : jZe Bs w s subs) (hp : IntsAt w pv pt) (hpb : ptB pt = true) :
  Calls Tryz.prog 162 #[.agg #[.map (some Bm), .int .i64 T], .agg #[.string arr, s], pv] w fun e w' => e = .returned (.tuple #[.int .i64 (celV (cellI arr subs pt 0 ars)), .bool (celB (cellI arr subs pt 0 ars))]) /\ Ext w w' := by
 obtain ⟨p, c, rfl⟩ := hs.form
 obtain ⟨n, hn⟩ : ∃ n, subs.length = n := ⟨_, rfl⟩
 rw [hn] at hs ⊢
 obtain ⟨C, hC⟩ : ∃ C, cellI arr subs pt 0 ars = C := ⟨_, rfl⟩
 have hcp := jVV arr subs pt ars 0
 rw [hC] at hcp ⊢
 have hlen1 : arr.size <= maxLen := by unfold maxLen; exact ha
 have HO := hid ho; have HE := hid hE; have HM := hid hM; have HS := hid hs; have HP := hid hp; have HPB := hid hpb; have HN := hid hn
 obtain ⟨mn, ms⟩ := hMI arr
 clear ho hE hM hs hp hpb hn hC hMI
 cases hpl : jZS arr 0 ars with
 | none =>
  rw [hpl] at hcp; have hC1 : C = -1 := hcp; have HC := hid hC1; have hh : Maps.has D (kl arr) = false := mn hpl
  have hV : ∀ v ps, rawE v = some (D.atKey (kl arr) (.held (.agg #[.int .i64 0, .slice none 0 0])), ps) -> v = .agg #[.int .i64 0, .slice none 0 0] := fun v ps h => by
   rw [Maps.atKey_of_not_has hh] at h; simp only [rawE, Option.some.injEq, Prod.mk.injEq, DataW.held.injEq] at h; exact h.1
  have HV := hid hV; have HH := hid hh; clear hcp hC1 hV hh mn ms hpl
  go_enter Tryz.func162, Tryz.ntmps162
  go_wp2_with (first | (at_lookup; refine jXa _ rfl _ _ 64 rfl 9 245 keyStr Tryz.underlying64 rawE (jVL _) _ [] rfl Bm N D rfl ((HM.o.alloc _).alloc _) _ _ rfl (WideMaps.keyOf_string_mk Tryz.underlying9 hlen1) (.agg #[.int .i64 0, .slice none 0 0]) false HV.o HH.o ?_) | fail); exact bodyPost_ret (v := .tuple #[.int .i64 0, .bool false]) (by simp [results, Tryz.results162, go_sem]) rfl ⟨by rw [HC.o]; rfl, (((Ext.refl w).alloc _).alloc _).alloc _⟩
 | some r =>
  obtain ⟨f, ds⟩ := r; rw [hpl] at hcp; obtain ⟨hh, q, c2, hat, hi0⟩ := ms f ds hpl
  have hV : ∀ v ps, rawE v = some (D.atKey (kl arr) (.held (.agg #[.int .i64 0, .slice none 0 0])), ps) -> v = .agg #[.int .i64 f, .slice q ds.length c2] := fun v ps h => by
   rw [hat] at h; simp only [rawE, Option.some.injEq, Prod.mk.injEq, DataW.held.injEq] at h; exact h.1
  have hpb := jY0I (by have h := HO.o; simp only [arrsB, Bool.and_eq_true, List.all_eq_true] at h; exact h.1) hpl; rw [Int.zero_add] at hpb
  have htb : totN ars <= 144 := by
   have h1 := jWp (ars := ars) (by have h := HO.o; simp only [arrsB, Bool.and_eq_true, List.all_eq_true] at h; exact h.1); have h2 := jWQ HO.o; omega
  have HPL : ((1 <= ds.length /\ ds.length <= 2) /\ ∀ d ∈ ds, 1 <= d /\ d <= 6) /\ 0 <= f /\ f <= 144 := ⟨hpb.1, hpb.2.1, by omega⟩; clear hpb htb; dsimp only at hcp; have HV := hid hV; have HH := hid hh; have HI := hid (hi0.ext HE.o); have HCP := hid hcp; clear hcp hV hh mn ms hpl hat hi0; obtain ⟨m, hm⟩ : ∃ m, ds.length = m := ⟨_, rfl⟩; rw [hm] at HV; have HMm := hid hm; obtain ⟨⟨⟨hd1, hd2⟩, hdd⟩, hf0, hf1⟩ := HPL; rw [hm] at hd1 hd2; have HDD := hid hdd; clear hm hdd; by_cases hnm : n = m
  ·subst hnm
   obtain ⟨qd, cd, hqe, hcm, hqc⟩ := HI.o.get; rw [HMm.o] at hqe; cases hqe
   have HQ := hid hqc; clear hqc hcm
   go_enter Tryz.func162, Tryz.ntmps162
   go_wp2_with (first | (at_lookup; refine jXa _ rfl _ _ 64 rfl 9 245 keyStr Tryz.underlying64 rawE (jVL _) _ [] rfl Bm N D rfl ((HM.o.alloc _).alloc _) _ _ rfl (WideMaps.keyOf_string_mk Tryz.underlying9 hlen1) (.agg #[.int .i64 f, .slice q n c2]) true HV.o HH.o ?_) | fail); obtain ⟨W0, hW0⟩ : ∃ W0, (((w.alloc (.cells #[.map (some Bm), .int .i64 T] 66)).alloc (.cells #[.string arr, .slice p n c] 159)).alloc (.cells #[.int .i64 f, .slice q n c2] 245)) = W0 := ⟨_, rfl⟩; have E0 : Hid (Ext w W0) := hid (by rw [<- hW0]; exact (((Ext.refl w).alloc _).alloc _).alloc _); have B0 := hid (show W0.heap[w.heap.size + 1 + 1]? = some (.cells #[.int .i64 f, .slice q n c2] 245 (0, 0)) by rw [<- hW0]; exact blk_at (by simp)); rw [hW0]; clear hW0
   go_loopw [10, 36] (fun nv iv wr => ∃ (k : Nat) (nn : Int), k <= n /\ iv = .int .i64 k /\ nv = .int .i64 nn /\ (k = 0 -> nn = 0) /\ (k <= 1 -> nn <= 5) /\ 0 <= nn /\ nn <= 35 /\ offD (ds.drop k) ((subs.map (evalA pt)).drop k) nn = offD ds (subs.map (evalA pt)) 0 /\ Ext W0 wr) (fun _ iv _ => n - (intOf iv).toNat)
   case atStart => exact ⟨0, 0, by omega, rfl, rfl, fun _ => rfl, by omega, by omega, by omega, rfl, Ext.refl W0⟩
   case round =>
    obtain ⟨k, nn, hk, rfl, rfl, hn0, hn1, hn2, hn3, hoff, hE⟩ := hrel; have HOF := hid hoff; have HE0 := hid hE; have HEW := hid (E0.o.trans hE); have H0 := hid hn0; obtain ⟨y0, y1, -, -⟩ := blk2 (hE.blk B0.o); clear hoff hE hn0; by_cases hlt : k < n
    ·obtain ⟨x, hx⟩ := jZ0 (xs := subs) (k := k) (by rw [HN.o]; exact hlt)
     obtain ⟨d, hd⟩ := jZ0 (xs := ds) (k := k) (by rw [HMm.o]; exact hlt); obtain ⟨g, a1, a2, a3, a4, a5, rfl, hva, rfl, hg, e0, e1, e2, e3, e4⟩ := HS.o.get hx; obtain ⟨bd, od, rfl, cd0, hbd⟩ := HQ.o k d hd; have c0 := HEW.o.keep e0; have c1 := HEW.o.keep e1; have c2' := HEW.o.keep e2; have c3 := HEW.o.keep e3; have c4 := HEW.o.keep e4; have CD := hid cd0; have hdb := HDD.o d (List.mem_of_getElem? hd); obtain ⟨v, hv⟩ : ∃ v, evalK [a1, a2, a3, a4] pt a5 pt.length = v := ⟨_, rfl⟩
     have hstep : offD ds (subs.map (evalA pt)) 0 = if 0 <= v /\ v < d then offD (ds.drop (k + 1)) ((subs.map (evalA pt)).drop (k + 1)) (nn * d + v) else none := by
      rw [<- HOF.o, jXy hd, jXy (xs := subs.map (evalA pt)) (k := k) (x := v) (by rw [List.getElem?_map, hx]; simp only [Option.map_some]; rw [<- hv]; rfl)]; rfl
     have HV2 := hid hv; have HST := hid hstep; have HVA := hid hva; clear e0 e1 e2 e3 e4 cd0 hx hd hv hstep hva; go_wp2_with (fail); refine (at_any a1 a2 a3 a4 a5 _ pt _ (HP.o.ext (HEW.o.alloc _)) HVA.o HPB.o).mono ?_; rw [HV2.o]; rintro e w3 ⟨rfl, h3⟩; have HE3 := hid ((HE0.o.alloc _).trans h3); have HEW3 := hid ((HEW.o.alloc _).trans h3); have hcd := HEW3.o.keep CD.o; clear h3 c0 c1 c2' c3 c4 y0 y1; obtain ⟨y0, y1, -, -⟩ := blk2 (HE3.o.blk B0.o); by_cases hv0 : v < 0
     ·have hq1 : decide (v < 0) = true := by simpa using hv0
      have HC1 : Hid (C = -1) := hid (by rw [HCP.o, HST.o, if_neg (by omega)]); go_wp2; exact bodyPost_ret (v := .tuple #[.int .i64 0, .bool false]) (by simp [results, Tryz.results162, go_sem]) rfl ⟨by rw [HC1.o]; rfl, HEW3.o⟩
     ·have hq1 : decide (v < 0) = false := by simpa using hv0
      by_cases hvd : d <= v
      ·have hq2 : decide (d <= v) = true := by simpa using hvd
       have HC1 : Hid (C = -1) := hid (by rw [HCP.o, HST.o, if_neg (by omega)]); go_wp2; exact bodyPost_ret (v := .tuple #[.int .i64 0, .bool false]) (by simp [results, Tryz.results162, go_sem]) rfl ⟨by rw [HC1.o]; rfl, HEW3.o⟩
      ·have hq2 : decide (d <= v) = false := by simpa using hvd
       have hb : 0 <= nn * d /\ nn * d <= 30 := by
        refine mul30 hn2 (hn1 ?_) hdb.1 hdb.2; omega
       have hz : k = 0 -> nn * d = 0 := fun h => by rw [H0.o h]; simp
       have HZ := hid hz; have HS2 : Hid (offD (ds.drop (k + 1)) ((subs.map (evalA pt)).drop (k + 1)) (nn * d + v) = offD ds (subs.map (evalA pt)) 0) := hid (by rw [HST.o, if_pos (by omega)]); have hw1 : IntKind.i64.wrap (nn * d) = nn * d := IntWalk.i64_in _ (by omega); have hw2 : IntKind.i64.wrap (nn * d + v) = nn * d + v := IntWalk.i64_in _ (by omega); clear hz; go_wp2; go_roundw
       case rel => exact ⟨k + 1, nn * d + v, by omega, by go_num, rfl, fun h => by omega, fun h => by have := HZ.o (by omega); omega, by omega, by omega, HS2.o, HE3.o⟩
       case measure => simp [intOf]; omega
    ·obtain rfl : k = n := by omega
     have HC1 : Hid (C = f + nn) := hid (by
      have h := HOF.o; rw [List.drop_eq_nil_of_le (by rw [HMm.o]; omega), List.drop_eq_nil_of_le (by rw [List.length_map, HN.o]; omega)] at h
      rw [HCP.o, <- h]; rfl)
     have hw1 : IntKind.i64.wrap (f + nn) = f + nn := IntWalk.i64_in _ (by omega); go_wp2; exact bodyPost_ret (v := .tuple #[.int .i64 (f + nn), .bool true]) (by simp [results, Tryz.results162, go_sem]) rfl ⟨by rw [HC1.o]; simp only [celV, celB]; rw [if_neg (by omega), decide_eq_true (by omega)], HEW.o⟩
  ·have hq : ((n : Int) != (m : Int)) = true := by simp; omega
   have HC1 : Hid (C = -1) := hid (by
    rw [HCP.o]; cases hof : offD ds (subs.map (evalA pt)) 0 with
    | none => simp only [hof]
    | some r =>
     have h := jVD hof; rw [List.length_map, HMm.o, HN.o] at h
     omega)
   go_enter Tryz.func162, Tryz.ntmps162
   go_wp2_with (first | (at_lookup; refine jXa _ rfl _ _ 64 rfl 9 245 keyStr Tryz.underlying64 rawE (jVL _) _ [] rfl Bm N D rfl ((HM.o.alloc _).alloc _) _ _ rfl (WideMaps.keyOf_string_mk Tryz.underlying9 hlen1) (.agg #[.int .i64 f, .slice q m c2]) true HV.o HH.o ?_) | fail); exact bodyPost_ret (v := .tuple #[.int .i64 0, .bool false]) (by simp [results, Tryz.results162, go_sem]) rfl ⟨by rw [HC1.o]; rfl, (((Ext.refl w).alloc _).alloc _).alloc _⟩
end
section
open Go.RowKit Go.Maps
attribute [local go_sem] Oper.semAt_some
theorem jX4 {F : Fence} {nn : Nat} {P : Program} (w : World) {ops : Array Oper} {rest : List Oper} {o : Oper} {a : Act} {Q : Exit -> Act -> World -> Prop}
  (hg : o.guard = none) (s x : Operand) (t : TypeId) (hop : o.op = Op.call { callee := Callee.builtin Builtin.append, args := #[s, x], argTypes := #[t, t] })
  (base : Nat) (e : TypeId) (i : TypeInfo) (z : Value) (size bytes : Nat) (h1 : P.underlying t = some (.slice e)) (h2 : P.info? e = some i) (h3 : i.zero = some z) (h4 : i.size = size) (h5 : i.bytes = bytes) (h6 : z.cells.size = size) (h7 : 0 < size)
  (v : Value) (k : Nat) (xs : List Value) (hs : a.eval s = v) (hown : w.ownsRow base e size v k xs) (ad : Addr) (m c : Nat) (news : List Value) (hx : a.eval x = .slice (some ad) m c) (hn : news.length = m * size)
  (hc : ∀ j u, news[j]? = some u -> w.cell? (ad.add j) = some u) (h1c : ∀ u ∈ news, u.oneCell' = true) (b1 : k + m <= maxLen) (b2 : (k + m) * bytes <= 140737488355328) (b3 : base <= w.heap.size)
  (hK : ∀ v' w', w'.ownsRow base e size v' (k + m) (xs ++ news) -> w.grownBy w' v.ownBlock -> (v' = .slice none 0 0 ↔ v = .slice none 0 0 /\ m = 0) -> (v'.ownBlock = v.ownBlock \/ v'.ownBlock = some w.heap.size) -> wpListIn F nn P ops Q rest (a.put o.dst v') w') :
  wpListIn F nn P ops Q (o :: rest) a w := by
 refine wpListIn_plain hg fun K hK' => ?_
 obtain ⟨v', w', hrun, r1, r2, r3, r4⟩ := run_append_own_at (P := P) w base t o.type e i z size bytes h1 h2 h3 h4 h5 h6 h7 v k xs hown ad m c news hn hc h1c b1 b2 b3
 unfold Oper.wpIn
 refine ⟨?_, ?_⟩
 ·simp [Oper.about, hop, resolve, Target.leads, Sem.run_pure]
 ·rw [Oper.semAt_plain F _ _ (by rw [hop]; intro c hc'; cases hc')]
  simp [execOp, hop, resolve, invoke, builtin, hs, hx, hrun, Result.andThen]; exact hK' _ _ (hK v' w' r1 r2 r3 r4)
def EvI (W6 : World) (R1 R2 EB : Nat) (i j : Int) (pv : Value) (f : El -> Int) (s : List El) (own : List Nat) (X : World) : Prop :=
 ∃ row p n c, own = R1 :: R2 :: EB :: row /\ (∀ b ∈ row, W6.heap.size <= b) /\ Lv (fun k => k = EB) W6 X /\ X.heap[EB]? = some (.cells #[.int .i64 i, .int .i64 j, pv, .slice p n c, .int .i64 0] 76 (0, 0)) /\ s.length = n /\
  X.ownsRow W6.heap.size 3 1 (.slice p n c) n ((s.map f).map (Value.int .i64)) /\ (∀ b, (Value.slice p n c).ownBlock = some b -> b ∈ row) /\ ∀ x ∈ s, 0 <= f x
def EvX (W6 : World) (R1 R2 EB : Nat) (f : El -> Int) (cd : Code) (s : List El) (_ : List Nat) (X : World) : Prop :=
 cd = .ret /\ Lv (fun k => k = EB \/ k = R1 \/ k = R2) W6 X /\ X.heap[R1]? = some (.cells #[.int .i64 0, .int .i64 0, .slice none 0 0, .slice none 0 0, .int .i64 0] 76 (0, 0)) /\ X.heap[R2]? = some (.cells #[.bool false] 4 (0, 0)) /\ R1 < W6.heap.size /\ R2 < W6.heap.size /\ ∃ x ∈ s, f x < 0
theorem EvI.stable (W6 : World) (R1 R2 EB : Nat) (i j : Int) (pv : Value) (f : El -> Int) : jX2 W6.heap.size (EvI W6 R1 R2 EB i j pv f) := by
 rintro s own X X' ⟨row, p, n, c, rfl, h1, h2, h3, h4, h5, h6, h7⟩ hv
 exact ⟨row, p, n, c, rfl, h1, h2.trans hv (fun _ _ h => h) (fun b hb h => by omega), hv.heap h3 (fun h => h.1 (by simp)), h4, row_lv h5 hv (fun b hb h => h.1 (by simp [h6 b hb])), h6, h7⟩
theorem EvX.stable (W6 : World) (R1 R2 EB : Nat) (f : El -> Int) (cd : Code) : jX2 W6.heap.size (EvX W6 R1 R2 EB f cd) := by
 rintro s own X X' ⟨rfl, h2, h3, h4, h5, h6, h7⟩ hv
 exact ⟨rfl, h2.trans hv (fun _ _ h => h) (fun b hb h => by omega), hv.heap h3 (fun h => by omega), hv.heap h4 (fun h => by omega), h5, h6, h7⟩
theorem blk5e {W : World} {g : Nat} {a b c d e : Value} {t : TypeId} (h : W.heap[g]? = some (.cells #[a, b, c, d, e] t (0, 0))) : W.cell? ⟨g, 0, none⟩ = some a /\ W.cell? ⟨g, 1, none⟩ = some b /\ W.cell? ⟨g, 2, none⟩ = some c /\ W.cell? ⟨g, 3, none⟩ = some d /\ W.cell? ⟨g, 4, none⟩ = some e /\ ∀ j, W.frozen? ⟨g, j, none⟩ = false := by
 simp [World.cell?, World.frozen?, h]
theorem jV4 (W : World) (g : Nat) (a b c d e : Value) : Lv (fun k => k = g) W (((((W.setCell ⟨g, 0, none⟩ a).setCell ⟨g, 1, none⟩ b).setCell ⟨g, 2, none⟩ c).setCell ⟨g, 3, none⟩ d).setCell ⟨g, 4, none⟩ e) :=
 ((((lv_set W g 0 a).trans (lv_set _ g 1 b) (fun _ _ h => h) (fun _ _ h => h)).trans (lv_set _ g 2 c) (fun _ _ h => h) (fun _ _ h => h)).trans (lv_set _ g 3 d) (fun _ _ h => h) (fun _ _ h => h)).trans (lv_set _ g 4 e) (fun _ _ h => h) (fun _ _ h => h)
theorem jY4u {W : World} {g : Nat} {a b c d e u : Value} {t : TypeId} (h : W.heap[g]? = some (.cells #[a, b, c, d, e] t (0, 0))) : (W.setCell ⟨g, 3, none⟩ u).heap[g]? = some (.cells #[a, b, c, u, e] t (0, 0)) := by
 have h1 := heap_setCell_same W g 3 _ t u h
 simpa using h1
theorem jY5m {W : World} {g : Nat} {a b c d e u : Value} {t : TypeId} (h : W.heap[g]? = some (.cells #[a, b, c, d, e] t (0, 0))) : (W.setCell ⟨g, 4, none⟩ u).heap[g]? = some (.cells #[a, b, c, d, u] t (0, 0)) := by
 have h1 := heap_setCell_same W g 4 _ t u h
 simpa using h1
theorem Grew.same {own : List Nat} {W W' : World} (h : Lv (fun k => k ∈ own) W W') (hb : ∀ b ∈ own, b < W.heap.size) : Grew own own W W' := ⟨h, fun b k => ⟨.inl k, by have := hb b k; have := h.size; omega⟩⟩
theorem jY4y (ars : List Arr) (D : DataW Value) (Bm N Bs : Nat) (T i j : Int) (pp ps : Option Addr) (pn pc ns cs : Nat) (pt : List Int) (a : ByteArray) (subs : List Aff) (nv : Value) (xs : List El) (w0 w : World)
  (ho : arrsB ars = true) (hE : Ext w0 w) (hMI : MapIs w0 D ars) (hM : w.ownsMap Tryz.prog 9 rawE Bm N D) (ha : a.size <= 9223372036854775807) (hs : jZe Bs w (.slice ps ns cs) subs) (hp : IntsAt w (.slice pp pn pc) pt) (hpb : ptB pt = true)
  (hnd : NdL nv xs) (hel : ∀ x ∈ xs, ElR Bs w x /\ x.2.1.size <= 9223372036854775807) (hxl : xs.length <= 1000) :
  Calls Tryz.prog 99 #[.agg #[.map (some Bm), .int .i64 T], .agg #[.int .i64 i, .int .i64 j, .slice pp pn pc], .agg #[.string a, .slice ps ns cs, nv]] w fun e w' =>
   (∃ a1 a2 q1 n1 c1 q2 n2 c2 wv, e = .returned (.tuple #[.agg #[.int .i64 a1, .int .i64 a2, .slice q1 n1 c1, .slice q2 n2 c2, .int .i64 wv], .bool (xs.all (fun x => decide (0 <= cellI x.2.1 x.2.2 pt 0 ars)) && decide (0 <= cellI a subs pt 0 ars))]) /\
    ((xs.all (fun x => decide (0 <= cellI x.2.1 x.2.2 pt 0 ars)) && decide (0 <= cellI a subs pt 0 ars)) = true -> a1 = i /\ a2 = j /\ Value.slice q1 n1 c1 = .slice pp pn pc /\ wv = cellI a subs pt 0 ars /\ jZ1 w.heap.size w' (.slice q2 n2 c2) (xs.map (fun x => cellI x.2.1 x.2.2 pt 0 ars)))) /\ Ext w w' := by
 obtain ⟨tn, xn, rfl⟩ := hnd.iface
 have HO := hid ho; have HE := hid hE; have HMI := hid hMI; have HM := hid hM; have HA := hid ha; have HS := hid hs; have HP := hid hp; have HPB := hid hpb; have HND := hid hnd; have HEL := hid hel; have HXL := hid hxl
 clear ho hE hMI hM ha hs hp hpb hnd hel hxl
 refine (callsIn_wide (n := 6)).1 ?_
 refine callsIn_of_wp_marks Tryz.func99 rfl trivial ?_ rfl
 simp only [Tryz.ntmps99, List.size_toArray, List.length_cons, List.length_nil, Nat.reduceAdd, Nat.reduceSub, Array.replicate_succ, Array.replicate_zero, List.push_toArray, List.append_toArray, List.nil_append, List.cons_append]
 have hdd : ∀ j : Nat, (Fence.wide.depth.isSome = true -> 1 <= j) := fun j h => by cases h
 generalize hga : w.heap.size = ga at *
 have HGA := hid hga
 gi_wp2_with (fail)
 refine ⟨trivial, ?_⟩
 refine (callsIn_wide.2 (jY3X a ps ns cs _ _ ⟨_, _, rfl⟩)).mono ?_
 rintro e w1 ⟨rfl, rfl⟩
 obtain ⟨wA, hwA⟩ : ∃ wA, (((w.alloc (.cells #[.map (some Bm), .int .i64 T] 66)).alloc (.cells #[.int .i64 i, .int .i64 j, .slice pp pn pc] 74)).alloc (.cells #[.string a, .slice ps ns cs, .iface tn xn] 163)) = wA := ⟨_, rfl⟩
 have hsA : wA.heap.size = ga + 1 + 1 + 1 := by rw [<- hwA]; simp [HGA.o]
 have A0 : wA.heap[ga]? = some (.cells #[.map (some Bm), .int .i64 T] 66 (0, 0)) := by rw [<- hwA]; exact jZ4 (jZ4 (blk_at HGA.o.symm))
 have A1 : wA.heap[ga + 1]? = some (.cells #[.int .i64 i, .int .i64 j, .slice pp pn pc] 74 (0, 0)) := by rw [<- hwA]; exact jZ4 (blk_at (by simp [HGA.o]))
 have A2 : wA.heap[ga + 1 + 1]? = some (.cells #[.string a, .slice ps ns cs, .iface tn xn] 163 (0, 0)) := by rw [<- hwA]; exact blk_at (by simp [HGA.o])
 have EA : Ext w wA := by rw [<- hwA]; exact (((Ext.refl w).alloc _).alloc _).alloc _
 rw [hwA]
 obtain ⟨wB, hwB⟩ : ∃ wB, ((wA.alloc (.cells #[.int .i64 0, .int .i64 0, .slice none 0 0, .slice none 0 0, .int .i64 0] 76)).alloc (.cells #[.bool false] 4)) = wB := ⟨_, rfl⟩
 have hsB : wB.heap.size = ga + 1 + 1 + 1 + 1 + 1 := by rw [<- hwB]; simp [hsA]
 have EB : Ext wA wB := by rw [<- hwB]; exact ((Ext.refl wA).alloc _).alloc _
 have B3 : wB.heap[ga + 1 + 1 + 1]? = some (.cells #[.int .i64 0, .int .i64 0, .slice none 0 0, .slice none 0 0, .int .i64 0] 76 (0, 0)) := by rw [<- hwB]; exact jZ4 (blk_at hsA.symm)
 have B4 : wB.heap[ga + 1 + 1 + 1 + 1]? = some (.cells #[.bool false] 4 (0, 0)) := by rw [<- hwB]; exact blk_at (by simp [hsA])
 rw [hwB]
 obtain ⟨W6, hW6⟩ : ∃ W6, ((wB.alloc (.cells #[.int .i64 i, .int .i64 j, .slice pp pn pc, .slice none 0 0, .int .i64 0] 76)).alloc (.cells #[.string a, .slice ps ns cs, .iface tn xn] 163)) = W6 := ⟨_, rfl⟩
 have hs6 : W6.heap.size = ga + 7 := by rw [<- hW6]; simp [hsB]
 have E6' : Ext wB W6 := by rw [<- hW6]; exact ((Ext.refl wB).alloc _).alloc _
 have EC := EB.trans E6'
 have K0 := hid (EC.blk A0); have K1 := hid (EC.blk A1); have K2 := hid (EC.blk A2); have K3 := hid (E6'.blk B3); have K4 := hid (E6'.blk B4)
 have K5 : Hid (W6.heap[ga + 1 + 1 + 1 + 1 + 1]? = some (.cells #[.int .i64 i, .int .i64 j, .slice pp pn pc, .slice none 0 0, .int .i64 0] 76 (0, 0))) := hid (by rw [<- hW6]; exact jZ4 (blk_at hsB.symm))
 have K6 : Hid (W6.heap[ga + 1 + 1 + 1 + 1 + 1 + 1]? = some (.cells #[.string a, .slice ps ns cs, .iface tn xn] 163 (0, 0))) := hid (by rw [<- hW6]; exact blk_at (by simp [hsB]))
 have E6 := hid (EA.trans EC)
 have HS6 := hid hs6
 simp only [World.size_alloc, hsB]
 rw [hW6]
 clear hW6 hwA hwB hsA hsB A0 A1 A2 EA EB B3 B4 E6' EC hs6
 gi_wp2_with (fail)
 have hs6 := HS6.o
 refine jZU (w := W6) rfl (hdd _) (gf := 222) (lb := #[.pointer (some ⟨ga + 1 + 1 + 1 + 1 + 1 + 1, 0, none⟩)]) rfl trivial (enters_of Tryz.func222 (by kernel_rfl) rfl)
  W6.heap.size (Nat.le_refl _) (jY48 W6.heap.size _ _ _ _ _ xs _ (fun _ => False) W6 HND.o (fun b h => h.elim) K6.o)
  (fun b h => h.elim) (fun b h => h) (fun x W1 W2 h _ => h) (fun W1 W2 _ _ => trivial) (fun _ => rfl)
  (EvI W6 (ga + 1 + 1 + 1) (ga + 1 + 1 + 1 + 1) (ga + 1 + 1 + 1 + 1 + 1) i j (.slice pp pn pc) (fun x => cellI x.2.1 x.2.2 pt 0 ars)) (EvX W6 (ga + 1 + 1 + 1) (ga + 1 + 1 + 1 + 1) (ga + 1 + 1 + 1 + 1 + 1) (fun x => cellI x.2.1 x.2.2 pt 0 ars)) (EvI.stable _ _ _ _ _ _ _ _) (fun cd => EvX.stable _ _ _ _ _ cd) [ga + 1 + 1 + 1, ga + 1 + 1 + 1 + 1, ga + 1 + 1 + 1 + 1 + 1]
  (fun b hb => ⟨by simp at hb; omega, fun h => h⟩) ⟨[], none, 0, 0, rfl, by simp, Lv.refl _ _, K5.o, rfl, World.ownsRow_nil _ _ _ _, by simp [Value.ownBlock], by simp⟩
  (fun (x : El) (a' : Act) (X : World) => ∃ g p n c, x.1 = .agg #[.string x.2.1, .slice p n c] /\ jZe Bs w (.slice p n c) x.2.2 /\ x.2.1.size <= 9223372036854775807 /\ X.heap[g]? = some (.cells #[.string x.2.1, .slice p n c] 159 (0, 0)) /\ a' = { tmps := #[.agg #[.map (some Bm), .int .i64 T], .agg #[.int .i64 i, .int .i64 j, .slice pp pn pc], .agg #[.string a, .slice ps ns cs, .iface tn xn], .pointer (some ⟨ga, 0, none⟩), .pointer (some ⟨ga + 1, 0, none⟩), .pointer (some ⟨ga + 1 + 1, 0, none⟩), .pointer (some ⟨ga + 1 + 1 + 1, 0, none⟩), .pointer (some ⟨ga + 1 + 1 + 1 + 1, 0, none⟩), .pointer (some ⟨ga + 1 + 1 + 1 + 1 + 1, 0, none⟩), .pointer (some ⟨g, 0, none⟩), uZ, uZ, uZ, uZ, .agg #[.int .i64 i, .int .i64 j, .slice pp pn pc], .agg #[.int .i64 i, .int .i64 j, .slice pp pn pc, .slice none 0 0, .int .i64 0], .agg #[.string a, .slice ps ns cs, .iface tn xn], .func (.func 222) #[] #[.pointer (some ⟨ga + 1 + 1 + 1 + 1 + 1 + 1, 0, none⟩)], x.1, uZ, uZ, uZ, uZ, uZ, uZ, uZ, uZ, uZ, uZ, uZ, uZ, uZ, uZ, uZ, uZ, uZ, uZ, uZ, uZ, uZ, uZ, uZ, uZ, uZ, uZ, uZ, uZ, uZ, uZ], defers := [] })
  ?ast ?assign ?body ?done ?stop
 case ast =>
  rintro x a' W W' l o ⟨g, p, n, c, h1, h2, h3, h4, h5⟩ ho hv; exact ⟨g, p, n, c, h1, h2, h3, hv.heap h4 (fun e => by subst e; rw [h4] at ho; cases ho), h5⟩
 case assign =>
  intro l2 y X K hy hK; obtain ⟨⟨p, n, c, e1, hl⟩, hsz⟩ := HEL.o y hy; obtain ⟨v, arr, sb⟩ := y; dsimp only at e1 hl hsz; subst e1; gi_wp2; exact hK _ _ (Lv.alloc _ X _) ⟨X.heap.size, p, n, c, rfl, hl, hsz, blk_at rfl, rfl⟩
 case body =>
  rintro l2 pre0 y ow a' X ⟨row, pr, nr, cr, rfl, hrow, hLV, hEB, hnr, hown, hblk, hpos⟩ hpx hrx hob ⟨g, p, n, c, e1, hl, hsz, hg, rfl⟩; obtain ⟨v, arr, sb⟩ := y; dsimp only at e1 hl hsz hg; subst e1; have EX := hid (hLV.ext0 E6.o (fun b hb h => by rw [HGA.o] at hb; omega)); have X0 := hid (hLV.heap K0.o (by omega)); have X1 := hid (hLV.heap K1.o (by omega)); have X3 := hid (hLV.heap K3.o (by omega)); have X4 := hid (hLV.heap K4.o (by omega)); have X5 := hid hEB; have XG := hid hg; obtain ⟨cv, hcv⟩ : ∃ cv, cellI arr sb pt 0 ars = cv := ⟨_, rfl⟩; have HCV := hid hcv; have HL := hid hl; have HSZ := hid hsz; have HROW := hid hrow; have HLV := hid hLV; have HNR := hid hnr; have HOWN := hid hown; have HBLK := hid hblk; have HPOS := hid hpos; have HOB := hid hob; have HPX := hid hpx; obtain ⟨y0, y1, -, -⟩ := blk2 hg; obtain ⟨l0, l1, -, -⟩ := blk2 X0.o; obtain ⟨i0, i1, i2⟩ := blk3 X1.o; clear hLV hEB hg hcv hl hsz hrow hnr hown hblk hpos hob hpx hrx; have hlX : ∀ b ∈ (ga + 1 + 1 + 1) :: (ga + 1 + 1 + 1 + 1) :: (ga + 1 + 1 + 1 + 1 + 1) :: row, b < X.heap.size := fun b hb => (HOB.o b hb).1
  have HLX := hid hlX; have hcall := jY3I ars arr (.slice p n c) (.slice pp pn pc) sb pt T Bm Bs N D w0 X HO.o (HE.o.trans EX.o) HMI.o (HM.o.kept (EX.o.grownBy none) (by simp)) HSZ.o (HL.o.ext EX.o) (HP.o.ext EX.o) HPB.o; rw [HCV.o] at hcall; have HCALL := hid hcall; clear hcall hlX; gi_wp2_with (fail); refine ⟨trivial, ?_⟩; refine CallsIn.mono (F := Fence.wide.inRound l2) (callsIn_wide.2 HCALL.o) ?_; rintro e w3 ⟨rfl, h3⟩; have HX3 := hid h3; have Y3 := hid (h3.blk X3.o); have Y4 := hid (h3.blk X4.o); have Y5 := hid (h3.blk X5.o); have HS3 := hid h3.size_le; have hx6 := HLV.o.size; have HX6 := hid hx6; clear h3 y0 y1 l0 l1 i0 i1 i2 hx6; by_cases hc0 : 0 <= cv
  ·have hb : celB cv = true := decide_eq_true hc0
   have hvv : celV cv = cv := if_neg (by omega); rw [hb, hvv]; obtain ⟨i0, hi, hz0, hz1, hz2⟩ := info_parts jZK; obtain ⟨y0, y1, y2, y3, y4, yf⟩ := blk5e Y5.o; have HOW3 := hid (jZ3 HOWN.o HX3.o)
   have hn1 : nr <= 1000 := by
    have h1 := HPX.o.length_le; have h2 := HXL.o; rw [List.length_append, HNR.o] at h1; omega
   clear hb hvv; gi_wp2_with (first | (gi_at_builtin; refine jX4 _ rfl (.tmp 31) (.tmp 33) 39 rfl W6.heap.size 3 i0 (.int .i64 0) 1 8 Tryz.underlying39 hi hz0 hz1 hz2 rfl (by decide) (.slice pr nr cr) nr _ rfl (HOW3.o.alloc (.cells #[.int .i64 cv] 3)) ⟨w3.heap.size, 0, none⟩ 1 1 [.int .i64 cv] rfl rfl (jZz rfl) (by intro u hu; simp at hu; subst hu; rfl) (by unfold maxLen; omega) (by omega) (by have h1 := HX6.o; have h2 := HS3.o; simp; omega) ?_; intro v' w4 hown4 hgr4 hnil4 hat4; obtain ⟨gq, dq, rfl, hdq⟩ := jZd hown4 (fun e => by have := (hnil4.1 e).2; omega); have HB4 := jZg hgr4 (jZ4 (o := .cells #[.int .i64 cv] 3) Y5.o) (fun e => by have h1 := HROW.o _ (HBLK.o _ e.symm); have h2 := HS6.o; omega); have yf4 := (blk5e HB4).2.2.2.2.2; have y34 := (blk5e HB4).2.2.2.1) | fail); have hs6 := HS6.o; have hx6 := HX6.o; have hsz3 := HS3.o; obtain ⟨wA, hwA⟩ : ∃ wA, w3.alloc (.cells #[.int .i64 cv] 3) = wA := ⟨_, rfl⟩; have hlvA : Lv (fun _ => False) X wA := by rw [<- hwA]; exact (HX3.o.alloc _).lv
   have hsA : wA.heap.size = w3.heap.size + 1 := by rw [<- hwA]; simp
   rw [hwA] at hgr4 hat4; have hl34 : Lv (fun k => (Value.slice pr nr cr).ownBlock = some k) wA w4 := Lv.grown hgr4 (fun r e _ => e); have hX4 : Lv (fun k => k ∈ row) X w4 := hlvA.trans hl34 (fun _ _ h => h.elim) (fun b _ h => HBLK.o b h)
   have GQ : gq ∈ row \/ X.heap.size <= gq := by
    rcases hat4 with h | h
    ·exact .inl (HBLK.o gq h.symm)
    ·simp only [Value.ownBlock, Option.some.injEq] at h; exact .inr (by omega)
   have hgl := (hown4.lt gq rfl).2
   have hgW : W6.heap.size <= gq := by
    rcases GQ with h | h
    ·exact HROW.o gq h
    ·omega
   have hset := lv_set w4 (ga + 1 + 1 + 1 + 1 + 1) 3 (.slice (some ⟨gq, 0, none⟩) (nr + 1) dq); have hL5 : Lv (fun k => k ∈ (ga + 1 + 1 + 1) :: (ga + 1 + 1 + 1 + 1) :: (ga + 1 + 1 + 1 + 1 + 1) :: row) X (w4.setCell ⟨ga + 1 + 1 + 1 + 1 + 1, 3, none⟩ (.slice (some ⟨gq, 0, none⟩) (nr + 1) dq)) := hX4.trans hset (fun b _ h => by simp [h]) (fun b _ h => by simp [h]); have hs45 := hX4.size; refine ⟨(ga + 1 + 1 + 1) :: (ga + 1 + 1 + 1 + 1) :: (ga + 1 + 1 + 1 + 1 + 1) :: (row ++ [gq]), ⟨hL5, fun b hb => ?_⟩, row ++ [gq], some ⟨gq, 0, none⟩, nr + 1, dq, rfl, fun b hb => ?_, ?_, jY4u HB4, by simp [HNR.o], ?_, fun b hb => ?_, fun x hx => ?_⟩
   ·simp only [List.mem_cons, List.mem_append, List.not_mem_nil, or_false] at hb
    have hlx := HLX.o; simp only [World.size_setCell, List.mem_cons] at hlx ⊢; rcases hb with hb | hb | hb | hb | hb
    ·exact ⟨.inl (.inl hb), by have := hlx b (.inl hb); omega⟩
    ·exact ⟨.inl (.inr (.inl hb)), by have := hlx b (.inr (.inl hb)); omega⟩
    ·exact ⟨.inl (.inr (.inr (.inl hb))), by have := hlx b (.inr (.inr (.inl hb))); omega⟩
    ·exact ⟨.inl (.inr (.inr (.inr hb))), by have := hlx b (.inr (.inr (.inr hb))); omega⟩
    ·subst hb
     rcases GQ with h | h
     ·exact ⟨.inl (.inr (.inr (.inr h))), hgl⟩
     ·exact ⟨.inr h, hgl⟩
   ·rcases List.mem_append.1 hb with h | h
    ·exact HROW.o b h
    ·simp at h; omega
   ·exact (HLV.o.trans hX4 (E := fun k => k = ga + 1 + 1 + 1 + 1 + 1) (fun _ _ h => h) (fun b hb h => by have := HROW.o b h; omega)).trans hset (fun _ _ h => h) (fun _ _ h => h)
   ·have e : ((pre0 ++ [(Value.agg #[.string arr, .slice p n c], arr, sb)]).map (fun x : El => cellI x.2.1 x.2.2 pt 0 ars)).map (Value.int .i64) = (pre0.map (fun x : El => cellI x.2.1 x.2.2 pt 0 ars)).map (Value.int .i64) ++ [.int .i64 cv] := by simp [HCV.o]
    rw [e]; exact row_lv hown4 hset (fun b hb h => by simp [Value.ownBlock] at hb; omega)
   ·simp [Value.ownBlock] at hb; subst hb; simp
   ·rcases List.mem_append.1 hx with h | h
    ·exact HPOS.o x h
    ·simp only [List.mem_cons, List.not_mem_nil, or_false] at h
     subst h; show 0 <= cellI arr sb pt 0 ars; rw [HCV.o]; exact hc0
  ·have hb : celB cv = false := decide_eq_false hc0
   have hvv : celV cv = 0 := if_pos (by omega); rw [hb, hvv]; obtain ⟨y0, y1, y2, y3, y4, yf⟩ := blk5e Y3.o; obtain ⟨z0, zf⟩ := blk1 Y4.o; clear hb hvv; gi_wp2; have hz := jWc (a' := .int .i64 0) (b' := .int .i64 0) (c' := .slice none 0 0) (d' := .slice none 0 0) (k' := .int .i64 0) Y3.o; have hv := jV4 w3 (ga + 1 + 1 + 1) (.int .i64 0) (.int .i64 0) (.slice none 0 0) (.slice none 0 0) (.int .i64 0); generalize (((((w3.setCell ⟨ga + 1 + 1 + 1, 0, none⟩ (.int .i64 0)).setCell ⟨ga + 1 + 1 + 1, 1, none⟩ (.int .i64 0)).setCell ⟨ga + 1 + 1 + 1, 2, none⟩ (.slice none 0 0)).setCell ⟨ga + 1 + 1 + 1, 3, none⟩ (.slice none 0 0)).setCell ⟨ga + 1 + 1 + 1, 4, none⟩ (.int .i64 0)) = w4 at *; have hs6 := HS6.o; have hv2 := hv.trans (lv_set w4 (ga + 1 + 1 + 1 + 1) 0 (.bool false)) (E := fun k => k = ga + 1 + 1 + 1 \/ k = ga + 1 + 1 + 1 + 1) (fun _ _ h => .inl h) (fun _ _ h => .inr h); have hv3 := (HX3.o.lv (D := fun _ => False)).trans hv2 (E := fun k => k = ga + 1 + 1 + 1 \/ k = ga + 1 + 1 + 1 + 1) (fun _ _ h => h.elim) (fun _ _ h => h); exact ⟨_, Grew.same (hv3.mono (fun b _ h => by rcases h with rfl | rfl <;> simp)) HLX.o, rfl, HLV.o.trans hv3 (fun _ _ h => .inl h) (fun _ _ h => .inr h), jZb hz (by omega) _, jZq (hv.heap Y4.o (by omega)), by omega, by omega, (.agg #[.string arr, .slice p n c], (arr, sb)), by simp, by show cellI arr sb pt 0 ars < 0; rw [HCV.o]; omega⟩
 case done =>
  rintro E ow X hE6 hEn ⟨row, pr, nr, cr, rfl, hrow, hLV, hEB, hnr, hown, hblk, hpos⟩ hob hv6 hz hdf; have HXS : Hid (xs.all (fun x => decide (0 <= cellI x.2.1 x.2.2 pt 0 ars)) = true) := hid (List.all_eq_true.2 (fun x hx => by have h := hpos x hx; simpa using h)); have EX := hid (hLV.ext0 E6.o (fun b hb h => by rw [HGA.o] at hb; omega)); have X0 := hid (hLV.heap K0.o (by omega)); have X1 := hid (hLV.heap K1.o (by omega)); have X2 := hid (hLV.heap K2.o (by omega)); have X3 := hid (hLV.heap K3.o (by omega)); have X4 := hid (hLV.heap K4.o (by omega)); have X5 := hid hEB; have XE := hid hdf; obtain ⟨cw, hcw⟩ : ∃ cw, cellI a subs pt 0 ars = cw := ⟨_, rfl⟩; have HCW := hid hcw; have HROW := hid hrow; have HNR := hid hnr; have HOWN := hid hown; have HBLK := hid hblk; have HEE : Hid (ga + 7 <= E) := hid (by omega); have HEN : Hid (E ∉ row) := hid (fun h => hEn (by simp [h])); obtain ⟨l0, l1, -, -⟩ := blk2 X0.o; obtain ⟨i0, i1, i2⟩ := blk3 X1.o; obtain ⟨t0, t1, t2⟩ := blk3 X2.o; have hcall := jY3I ars a (.slice ps ns cs) (.slice pp pn pc) subs pt T Bm Bs N D w0 X HO.o (HE.o.trans EX.o) HMI.o (HM.o.kept (EX.o.grownBy none) (by simp)) HA.o (HS.o.ext EX.o) (HP.o.ext EX.o) HPB.o; rw [hcw] at hcall; have HCALL := hid hcall; clear hrow hLV hEB hnr hown hblk hpos hob hv6 hz hdf hcw hcall hE6 hEn; gi_wp2_with (fail); refine ⟨trivial, ?_⟩; refine (callsIn_wide.2 HCALL.o).mono ?_; rintro e w3 ⟨rfl, h3⟩; have HX3 := hid h3; have Y3 := hid (h3.blk X3.o); have Y4 := hid (h3.blk X4.o); have Y5 := hid (h3.blk X5.o); have YE := hid (h3.blk XE.o); obtain ⟨y0, y1, y2, y3, y4, yf⟩ := blk5e Y5.o; clear h3 l0 l1 i0 i1 i2 t0 t1 t2; obtain ⟨w4, hw4⟩ : ∃ w4, w3.setCell ⟨ga + 1 + 1 + 1 + 1 + 1, 4, none⟩ (.int .i64 (celV cw)) = w4 := ⟨_, rfl⟩; have hl4 : Lv (fun k => k = ga + 1 + 1 + 1 + 1 + 1) w3 w4 := by rw [<- hw4]; exact lv_set _ _ _ _
  have Z5 := hid (show w4.heap[ga + 1 + 1 + 1 + 1 + 1]? = some (.cells #[.int .i64 i, .int .i64 j, .slice pp pn pc, .slice pr nr cr, .int .i64 (celV cw)] 76 (0, 0)) by rw [<- hw4]; exact jY5m Y5.o); have Z3 := hid (hl4.heap Y3.o (by omega)); have Z4 := hid (hl4.heap Y4.o (by omega)); have hE7 := HEE.o; have ZE := hid (hl4.heap YE.o (by omega)); obtain ⟨v0, v1, v2, v3, v4, vf⟩ := blk5e Z5.o; obtain ⟨u0, u1, u2, u3, u4, uf⟩ := blk5e Z3.o; obtain ⟨q0, qf⟩ := blk1 Z4.o; obtain ⟨vw, hvw⟩ : ∃ vw, celV cw = vw := ⟨_, rfl⟩; obtain ⟨bw, hbw⟩ : ∃ bw, celB cw = bw := ⟨_, rfl⟩; rw [hvw] at hw4 Z5 v4; rw [hvw, hbw]; have HVW := hid hvw; have HBW := hid hbw; clear hvw hbw hE7; subst hw4; gi_wp2; obtain ⟨w4, hw4⟩ : ∃ w4, w3.setCell ⟨ga + 1 + 1 + 1 + 1 + 1, 4, none⟩ (.int .i64 vw) = w4 := ⟨_, rfl⟩; rw [hw4] at hl4 Z3 Z4 Z5 ZE; rw [hw4]; have hz := jWc (a' := .int .i64 i) (b' := .int .i64 j) (c' := .slice pp pn pc) (d' := .slice pr nr cr) (k' := .int .i64 vw) Z3.o; have hv := jV4 w4 (ga + 1 + 1 + 1) (.int .i64 i) (.int .i64 j) (.slice pp pn pc) (.slice pr nr cr) (.int .i64 vw); obtain ⟨w5, hw5⟩ : ∃ w5, (((((w4.setCell ⟨ga + 1 + 1 + 1, 0, none⟩ (.int .i64 i)).setCell ⟨ga + 1 + 1 + 1, 1, none⟩ (.int .i64 j)).setCell ⟨ga + 1 + 1 + 1, 2, none⟩ (.slice pp pn pc)).setCell ⟨ga + 1 + 1 + 1, 3, none⟩ (.slice pr nr cr)).setCell ⟨ga + 1 + 1 + 1, 4, none⟩ (.int .i64 vw)) = w5 := ⟨_, rfl⟩; rw [hw5] at hz hv; rw [hw5]; have hv6 := lv_set w5 (ga + 1 + 1 + 1 + 1) 0 (.bool bw); have hE7 := HEE.o; have hs6 := HS6.o; have KB1 := hid (jZb (g' := ga + 1 + 1 + 1 + 1) (o' := 0) hz (by omega) (.bool bw)); have KB2 := hid (jZq (b := .bool bw) (hv.heap Z4.o (by omega))); have KE := hid (hv6.heap (hv.heap ZE.o (by omega)) (by omega)); have hvv : Lv (fun k => k = ga + 1 + 1 + 1 + 1 + 1 \/ k = ga + 1 + 1 + 1 \/ k = ga + 1 + 1 + 1 + 1) X (w5.setCell ⟨ga + 1 + 1 + 1 + 1, 0, none⟩ (.bool bw)) := (((HX3.o.lv (D := fun _ => False)).trans hl4 (E := fun k => k = ga + 1 + 1 + 1 + 1 + 1) (fun _ _ h => h.elim) (fun _ _ h => h)).trans hv (E := fun k => k = ga + 1 + 1 + 1 + 1 + 1 \/ k = ga + 1 + 1 + 1) (fun _ _ h => .inl h) (fun _ _ h => .inr h)).trans hv6 (fun b _ h => h.elim .inl (fun h => .inr (.inl h))) (fun b _ h => .inr (.inr h)); have HVV := hid hvv; refine jZk [E] _ (fun E' h => by simp at h; subst h; exact KE.o) (by simp) (fun W' hW' => ?_); obtain ⟨r0, r1, r2, r3, r4, -⟩ := blk5e (hW'.heap KB1.o (by simp; omega)); obtain ⟨rb, -⟩ := blk1 (hW'.heap KB2.o (by simp; omega)); have hfin : Lv (fun k => k = E \/ k = ga + 1 + 1 + 1 + 1 + 1 \/ k = ga + 1 + 1 + 1 \/ k = ga + 1 + 1 + 1 + 1) X W' := HVV.o.trans hW' (fun _ _ h => .inr h) (fun _ _ h => .inl (by simpa using h)); refine ⟨.tuple #[.agg #[.int .i64 i, .int .i64 j, .slice pp pn pc, .slice pr nr cr, .int .i64 vw], .bool bw], by simp [results, Tryz.results99, go_sem, r0, r1, r2, r3, r4, rb], ⟨_, _, _, _, _, _, _, _, _, by rw [HXS.o, <- HBW.o, HCW.o]; rfl, fun h => ⟨rfl, rfl, rfl, ?_, ?_⟩⟩, hfin.ext0 EX.o (fun b hb h => by rw [HGA.o] at hb; omega)⟩
  ·rw [<- HVW.o, HCW.o]
   rw [HXS.o, HCW.o, Bool.true_and, decide_eq_true_eq] at h; exact if_neg (by omega)
  ·refine jZ1.mk (n := nr) (jZ7 (row_lv HOWN.o hfin (fun b hb h => ?_)) (by omega)) (by rw [List.length_map, HNR.o])
   have h1 := HBLK.o b hb; have h2 := HROW.o b h1; rcases h with h | h
   ·exact HEN.o (h ▸ h1)
   ·omega
 case stop =>
  rintro E cd q ow X hE6 hEn hq ⟨rfl, hLV, h3, h4, h5, h6, x, hx, hneg⟩ hob hv6 hz hdf
  have HXS : Hid (xs.all (fun x => decide (0 <= cellI x.2.1 x.2.2 pt 0 ars)) = false) := hid (by
   cases hall : xs.all (fun x => decide (0 <= cellI x.2.1 x.2.2 pt 0 ars)) with
   | false => rfl
   | true =>
    have h := List.all_eq_true.1 hall x (hq.subset hx); simp only [decide_eq_true_eq] at h; dsimp only at hneg
    omega)
  have HN1 : Hid (ga + 1 + 1 + 1 ≠ E) := hid (by omega); have HN2 : Hid (ga + 1 + 1 + 1 + 1 ≠ E) := hid (by omega); have KE := hid hdf; have KB1 := hid h3; have KB2 := hid h4; have HEX := hid (hLV.ext0 E6.o (fun b hb h => by rw [HGA.o] at hb; omega)); have HEE : Hid (ga < E) := hid (by omega); clear h3 h4 h5 h6 hx hneg hob hv6 hz hdf hq hLV hEn hE6; gi_wp2; refine jZk [E] _ (fun E' h => by simp at h; subst h; exact KE.o) (by simp) (fun W' hW' => ?_); obtain ⟨r0, r1, r2, r3, r4, -⟩ := blk5e (hW'.heap KB1.o (by simpa using HN1.o)); obtain ⟨rb, -⟩ := blk1 (hW'.heap KB2.o (by simpa using HN2.o)); refine ⟨.tuple #[.agg #[.int .i64 0, .int .i64 0, .slice none 0 0, .slice none 0 0, .int .i64 0], .bool false], by simp [results, Tryz.results99, go_sem, r0, r1, r2, r3, r4, rb], ⟨_, _, _, _, _, _, _, _, _, by rw [HXS.o]; rfl, fun h => by rw [HXS.o] at h; cases h⟩, hW'.ext0 HEX.o (fun b hb h => by have := HEE.o; rw [HGA.o] at hb; simp at h; omega)⟩
end
end Go.Proofs.YtklehkkclojccaaGreat
