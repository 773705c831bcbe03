/- The texts U9, joined. No statement is proved here. -/
import Derived.Test.YtggpjapmhakklaaK24
/- Misses of the program with a cache that drops the cell used least recently (by u8.py). No statement is proved here. -/
namespace Go.Proofs.Ytggpjapmhakklaa
open Go.RowKit Go.Maps
attribute [local go_sem] Oper.semAt_some

theorem lruN_app {ys : List Int} {x z : Int} : lruN (ys ++ [x]) z ys.length = lruN ys z ys.length := by unfold lruN; rw [sdP_app]
theorem meth_hold (mb e0 : Nat) (fl : Nat) (X : World) : (method (fl + 1) 61 (.agg #[.map (some mb), .pointer (some ⟨e0, 0, none⟩)]) "loop.example/loopnests/impl.hold").run Try.prog X = .ok (37, .agg #[.map (some mb), .pointer (some ⟨e0, 0, none⟩)]) X := by kernel_rfl
theorem meth_count (mb e0 : Nat) (fl : Nat) (X : World) : (method (fl + 1) 61 (.agg #[.map (some mb), .pointer (some ⟨e0, 0, none⟩)]) "loop.example/loopnests/impl.count").run Try.prog X = .ok (162, .agg #[.map (some mb), .pointer (some ⟨e0, 0, none⟩)]) X := by kernel_rfl
theorem meth_drop (mb e0 : Nat) (fl : Nat) (X : World) : (method (fl + 1) 61 (.agg #[.map (some mb), .pointer (some ⟨e0, 0, none⟩)]) "loop.example/loopnests/impl.drop").run Try.prog X = .ok (163, .agg #[.map (some mb), .pointer (some ⟨e0, 0, none⟩)]) X := by kernel_rfl
/-- What the consumer of the accesses holds: the number of misses, and the cache. -/
def LmI (wb : World) (Z : Nat) (CB mb e0 : Nat) (s : List (Int × Int)) (own : List Nat) (X : World) : Prop :=
  ∃ L nM, own = CB :: mb :: e0 :: L.map (fun x => x.1) ∧ Lv (fun b => b ∈ [CB, mb, e0]) wb X ∧ X.heap[CB]? = some (.cells #[.int .i64 (lruN (s.map (fun x => x.1)) Z s.length)] 3 (0, 0)) ∧
    RecS X mb e0 nM L ∧ nM ≤ s.length ∧ L.map (fun x => x.2) = (stkF (s.map (fun x => x.1))).take Z ∧ ∀ b ∈ L.map (fun x => x.1), wb.heap.size ≤ b
theorem LmI.stable (wb : World) (Z CB mb e0 : Nat) : StableB wb.heap.size (LmI wb Z CB mb e0) := by
  rintro s own X X' ⟨L, nM, rfl, h1, h2, h5, h6, h7, h8⟩ hv
  exact ⟨L, nM, rfl, h1.trans hv (fun _ _ h => h) (fun b hb h => by omega), hv.heap h2 (fun h => h.1 (by simp)), h5.lv hv (fun b hb h => h.1 (List.mem_cons_of_mem _ hb)), h6, h7, h8⟩

set_option linter.unusedVariables false in
set_option linter.unusedSimpArgs false in
set_option maxRecDepth 100000 in
set_option maxHeartbeats 4000000 in
theorem missesLru_any (p : Option Addr) (n c Z mb e0 : Nat) (xs : List Int) (w : World) (hn : xs.length = n) (hm : n ≤ 600) (hZ : Z ≤ 40) (hx : ∀ x ∈ xs, i64 x) (hs : IntsAt w (.slice p n c) xs) (hrec : RecS w mb e0 0 []) (hpb : ∀ b o, p = some ⟨b, o, none⟩ → 0 < n → b ≠ mb ∧ b ≠ e0) :
    Calls Try.prog 33 #[.slice p n c, .int .i64 (Z : Int), .iface 61 (.agg #[.map (some mb), .pointer (some ⟨e0, 0, none⟩)])] w fun e w' => e = .returned (.int .i64 (lruN xs Z n)) ∧ Lv (fun k => k = mb ∨ k = e0) w w' := by
  have HN := Lib.hid hn; have HS := Lib.hid hs; have HX := Lib.hid hx; have HREC := Lib.hid hrec
  have hrl := hrec.lt
  clear hn hs hx hrec
  refine (callsIn_wide (n := 6)).1 ?_
  refine callsIn_of_wp_marks Try.func33 rfl trivial ?_ rfl
  simp only [Try.ntmps33, List.size_toArray, List.length_cons, List.length_nil, Nat.reduceAdd, Nat.reduceSub, Array.replicate_succ, Array.replicate_zero, List.push_toArray, List.append_toArray, List.nil_append, List.cons_append]
  have hdd : ∀ j : Nat, (Fence.wide.depth.isSome = true → 1 ≤ j) := fun j h => by cases h
  obtain ⟨g0, hg0⟩ : ∃ g0, w.heap.size = g0 := ⟨_, rfl⟩
  have hmI : ¬ (600 : Int) < (n : Int) := by omega
  have hZ0 : ¬ (Z : Int) < 0 := by omega
  have hZ1 : ¬ (40 : Int) < (Z : Int) := by omega
  gi_wp2_with (fail)
  obtain ⟨W2, hW2⟩ : ∃ W2, ((w.alloc (.cells #[.int .i64 (Z : Int)] 3)).alloc (.cells #[.iface 61 (.agg #[.map (some mb), .pointer (some ⟨e0, 0, none⟩)])] 102)).alloc (.cells #[.int .i64 0] 3) = W2 := ⟨_, rfl⟩
  have hs2 : W2.heap.size = g0 + 3 := by rw [← hW2]; simp [hg0]
  have E2 : Ext w W2 := by rw [← hW2]; exact (((Ext.refl w).alloc _).alloc _).alloc _
  have A2 : W2.heap[g0]? = some (.cells #[.int .i64 (Z : Int)] 3 (0, 0)) := by rw [← hW2]; exact blk_old (blk_old (blk_at hg0.symm))
  have P2 : W2.heap[g0 + 1]? = some (.cells #[.iface 61 (.agg #[.map (some mb), .pointer (some ⟨e0, 0, none⟩)])] 102 (0, 0)) := by rw [← hW2]; exact blk_old (blk_at (by simp [hg0]))
  have C2 : W2.heap[g0 + 2]? = some (.cells #[.int .i64 0] 3 (0, 0)) := by rw [← hW2]; exact blk_at (by simp [hg0])
  rw [hg0] at hrl
  have hmbl := hrl mb (by simp); have he0l := hrl e0 (by simp)
  have HREC2 := Lib.hid (HREC.out.ext E2); have HA2 := Lib.hid A2; have HP2 := Lib.hid P2; have HC2 := Lib.hid C2; have HS2 := Lib.hid hs2; have HSB := Lib.hid (HS.out.ext E2); have HG0 := Lib.hid hg0; have HE2 := Lib.hid E2
  have HPB : Hid (∀ b o, p = some ⟨b, o, none⟩ → 0 < n → b < g0 ∧ b ≠ mb ∧ b ≠ e0) := Lib.hid (fun b o e h0 => ⟨by rw [← hg0]; exact HS.out.blk_lt (by rw [HN.out]; exact h0) e, hpb b o e h0⟩)
  clear E2 A2 P2 C2 hs2 hg0 hrl hpb
  try rw [hW2]
  clear hW2
  refine ⟨trivial, ?_⟩
  refine (callsIn_wide.2 (uses_call p n c xs W2 HN.out hm HX.out HSB.out)).mono ?_
  rintro e wb ⟨PT, PN, q1, d1, rfl, hE, hPT, hPN, hbT, hbN, hnx⟩
  rw [HS2.out] at hPT hPN hnx
  have HQB : Hid (∀ b o, q1 = some ⟨b, o, none⟩ → g0 + 3 ≤ b ∧ b < wb.heap.size) := Lib.hid (fun b o e => by subst e; exact World.ownsRow.lt hnx b rfl)
  have hnxl : (nxL xs n).length = n := by rw [nxL_len, HN.out]
  have HEb := Lib.hid (HE2.out.trans hE); have HRECb := Lib.hid (HREC2.out.ext hE); have HAb := Lib.hid (hE.blk HA2.out); have HPb := Lib.hid (hE.blk HP2.out); have HCb := Lib.hid (hE.blk HC2.out); have HSb := Lib.hid (HSB.out.ext hE); have HT := Lib.hid hbT; have HNb := Lib.hid hbN; have HNX := Lib.hid hnx.at
  have hPTl := lt_of_block hbT; have hPNl := lt_of_block hbN
  have hbz : g0 + 3 ≤ wb.heap.size := by have := hE.size_le; have := HS2.out; omega
  clear hE hbT hbN hnx HA2 HP2 HC2 HREC2 HE2 HSB
  obtain ⟨CB, hCB⟩ : ∃ CB, g0 + 1 + 1 = CB := ⟨_, rfl⟩
  have hCB2 : g0 + 2 = CB := by omega
  rw [hCB2] at HCb
  try rw [hCB]
  gi_wp2_with (fail)
  refine wpIn_rangeFunc_baseA (w := wb) rfl (hdd _) (gf := 60) (lb := #[.pointer (some ⟨PT, 0, none⟩), .pointer (some ⟨PN, 0, none⟩)]) rfl trivial (enters_of Try.func60 (by kernel_rfl) rfl)
    wb.heap.size (Nat.le_refl _) (uses_seqB wb.heap.size _ _ PT PN n c d1 p q1 xs (nxL xs n) (fun b => b < wb.heap.size ∧ b ≠ CB ∧ b ≠ mb ∧ b ≠ e0) wb HN.out hm hnxl HSb.out HNX.out HT.out HNb.out (fun b h => h.1) ⟨hPTl, by omega, by omega, by omega⟩ ⟨hPNl, by omega, by omega, by omega⟩ (fun b o hb h0 => by have := HPB.out b o hb h0; exact ⟨by omega, by omega, by omega, by omega⟩) (fun b o hb h0 => by have := HQB.out b o hb; exact ⟨by omega, by omega, by omega, by omega⟩))
    (fun b h => h.1) (fun b h => h.elim) (fun x Wa Wb _ _ => trivial) (fun Wa Wb _ _ => trivial) (fun _ => rfl)
    (LmI wb Z CB mb e0) (fun cd s own X => False) (LmI.stable wb Z CB mb e0) (by
      rintro cd s o X X' h hv
      exact h.elim)
    [CB, mb, e0] (fun b hb => by simp at hb; rcases hb with rfl | rfl | rfl; exact ⟨by omega, fun h => h.2.1 rfl⟩; exact ⟨by omega, fun h => h.2.2.1 rfl⟩; exact ⟨by omega, fun h => h.2.2.2 rfl⟩) ⟨[], 0, rfl, Lv.refl _ _, HCb.out, HRECb.out, Nat.le_refl _, by simp [stkF], by simp⟩
    (fun (x : Int × Int) (a' : Act) (X : World) => ∃ g, X.heap[g]? = some (.cells #[.int .i64 x.1, .int .i64 x.2] 67 (0, 0)) ∧ a' = { tmps := #[.slice p n c, .int .i64 (Z : Int), .iface 61 (.agg #[.map (some mb), .pointer (some ⟨e0, 0, none⟩)]), undef, .pointer (some ⟨g0, 0, none⟩), .pointer (some ⟨g0 + 1, 0, none⟩), .int .i64 0, .pointer (some ⟨CB, 0, none⟩), .pointer (some ⟨g, 0, none⟩), .slice p n c, .int .i64 (n : Int), .bool false, .bool false, .int .i64 (Z : Int), .bool false, .bool false, .bool false, .int .i64 (Z : Int), .bool false, .bool false, .slice p n c, .func (.func 60) #[] #[.pointer (some ⟨PT, 0, none⟩), .pointer (some ⟨PN, 0, none⟩)], .agg #[.int .i64 x.1, .int .i64 x.2], undef, undef, undef, undef, undef, undef, undef, undef, undef, undef, undef, undef], defers := [] })
    ?ast ?assign ?body ?done ?stop
  case ast =>
    rintro x a' W W' l o ⟨g, h4, h5⟩ ho hv
    exact ⟨g, hv.heap h4 (fun e => by subst e; rw [h4] at ho; cases ho), h5⟩
  case assign =>
    intro l2 y X K hy hK
    obtain ⟨yc, yn⟩ := y
    dsimp only [encU]
    gi_wp2
    exact hK _ _ (Lv.alloc _ X _) ⟨X.heap.size, blk_at rfl, rfl⟩
  case body =>
    rintro l2 pre0 x ow a' X ⟨L, nM, rfl, hLV, hCX, hrec, hnM, hsnd, hLb⟩ hpx hrx hob ⟨g, hg, rfl⟩
    obtain ⟨x, nx⟩ := x
    dsimp only at hg
    have hxm : x ∈ xs := by
      have h1 : (x, nx) ∈ usL xs (nxL xs n) := List.IsPrefix.mem (by simp) hpx
      have h2 : x ∈ (usL xs (nxL xs n)).map (fun y => y.1) := List.mem_map.2 ⟨(x, nx), h1, rfl⟩
      rw [usL_fst (by rw [nxL_len])] at h2
      exact h2
    have hxi := HX.out x hxm
    obtain ⟨k, hk⟩ : ∃ k, pre0.length = k := ⟨_, rfl⟩
    have hpl := hpx.length_le
    rw [usL_len (by rw [nxL_len]), HN.out, List.length_append, hk, List.length_cons, List.length_nil] at hpl
    obtain ⟨ps, hps⟩ : ∃ ps, pre0.map (fun x => x.1) = ps := ⟨_, rfl⟩
    have hps2 : (pre0 ++ [(x, nx)]).map (fun x => x.1) = ps ++ [x] := by rw [List.map_append, hps]; rfl
    have hpsl : ps.length = k := by rw [← hps, List.length_map, hk]
    rw [hk] at hnM
    rw [hps] at hsnd
    rw [hps, hk] at hCX
    have hPX := hLV.heap HPb.out (fun h => by simp at h; omega)
    have hAX := hLV.heap HAb.out (fun h => by simp at h; omega)
    obtain ⟨p0, -⟩ := blk1 hPX
    obtain ⟨a0, -⟩ := blk1 hAX
    obtain ⟨c0, -⟩ := blk1 hCX
    obtain ⟨u0, u1, -, -⟩ := blk2 hg
    have hm1 := meth_hold mb e0; have hm2 := meth_count mb e0; have hm3 := meth_drop mb e0
    have hLlen : L.length ≤ Z := by
      have h1 : L.length = (L.map (fun x => x.2)).length := by rw [List.length_map]
      rw [h1, hsnd, List.length_take]
      omega
    have hgk : (ps ++ [x])[k]? = some x := by rw [List.getElem?_append_right (by omega), hpsl]; simp
    have hlr := lruN_next (z := Z) hgk
    rw [List.take_left' hpsl, ← hpsl, lruN_app, hpsl] at hlr
    have hbd := lruN_bd ps Z k
    have hCBr : CB ∉ mb :: e0 :: L.map (fun x => x.1) := fun h => by
      rcases List.mem_cons.1 h with e | h
      · exact map_ne_ent hrec.2.1 hCX e.symm
      · obtain ⟨⟨la, er, -, -, h3⟩, -⟩ := hrec
        obtain ⟨cc, he⟩ := ring_ent h3 (by rcases List.mem_cons.1 h with e | h; exact .inl e; exact .inr h)
        unfold EntB at he
        rw [hCX] at he
        simp at he
    have hRr : ∀ (B : Nat) (o : Array Value) (t : TypeId), X.heap[B]? = some (.cells o t (0, 0)) → t ≠ 105 → B ∉ mb :: e0 :: L.map (fun x => x.1) := fun B o t hB ht h => by
      rcases List.mem_cons.1 h with e | h
      · exact map_ne_ent hrec.2.1 hB e.symm
      · obtain ⟨⟨la, er, -, -, h3⟩, -⟩ := hrec
        obtain ⟨cc, he⟩ := ring_ent h3 (by rcases List.mem_cons.1 h with e | h; exact .inl e; exact .inr h)
        unfold EntB at he
        rw [hB] at he
        cases he
        exact ht rfl
    have HPr := Lib.hid (hRr _ _ _ hPX (by decide)); have HAr := Lib.hid (hRr _ _ _ hAX (by decide)); have HCr := Lib.hid hCBr
    have HFIN : Hid (∀ (W5 : World) (L' : List (Nat × Int)) (n' : Nat), RecS W5 mb e0 n' L' → n' ≤ k + 1 → Lv (fun b => b ∈ CB :: mb :: e0 :: L.map (fun x => x.1)) X W5 → W5.heap[CB]? = some (.cells #[.int .i64 (lruN (ps ++ [x]) Z (k + 1))] 3 (0, 0)) →
        L'.map (fun x => x.2) = (stkF (ps ++ [x])).take Z → (∀ b ∈ L'.map (fun x => x.1), b ∈ L.map (fun x => x.1) ∨ X.heap.size ≤ b) → ∃ own', Grew (CB :: mb :: e0 :: L.map (fun x => x.1)) own' X W5 ∧ LmI wb Z CB mb e0 (pre0 ++ [(x, nx)]) own' W5) := Lib.hid (fun W5 L' n' hr hn' hl hc hs' hb => by
      have hs1 := hl.size
      have hs0 := hLV.size
      refine ⟨CB :: mb :: e0 :: L'.map (fun x => x.1), ⟨hl, fun k' hk' => ?_⟩, L', n', rfl, hLV.trans hl (fun _ _ h => h) (fun b' hb' h => ?_), by rw [hps2, List.length_append, hk]; exact hc, hr, by rw [List.length_append, hk]; exact hn', by rw [hps2]; exact hs', fun b' hb' => ?_⟩
      · have hlt : k' < W5.heap.size := by
          rcases List.mem_cons.1 hk' with e | h
          · subst e; exact lt_of_block hc
          · exact hr.lt k' h
        refine ⟨?_, hlt⟩
        simp only [List.mem_cons] at hk' ⊢
        rcases hk' with e | e | e | e
        · exact .inl (.inl e)
        · exact .inl (.inr (.inl e))
        · exact .inl (.inr (.inr (.inl e)))
        · rcases hb k' e with h | h
          · exact .inl (.inr (.inr (.inr h)))
          · exact .inr h
      · simp only [List.mem_cons, List.not_mem_nil, or_false] at h ⊢
        rcases h with h | h | h | h
        · exact .inl h
        · exact .inr (.inl h)
        · exact .inr (.inr h)
        · have := hLb b' h; omega
      · rcases hb b' hb' with h | h
        · exact hLb b' h
        · omega)
    gi_wp2_with (fail)
    refine ⟨trivial, ?_⟩
    refine CallsIn.mono (F := Fence.wide.inRound l2) (callsIn_wide.2 (hold_any mb e0 nM L x nx X hrec hxi (by omega))) ?_
    rintro e W1 ⟨b, rfl, hrec1, hbl, hlv1⟩
    have HC1 := Lib.hid (hlv1.heap hCX hCBr); have HP1 := Lib.hid (hlv1.heap hPX HPr.out); have HA1 := Lib.hid (hlv1.heap hAX HAr.out)
    have HLV1 := Lib.hid hlv1; have HREC1 := Lib.hid hrec1; have HBL := Lib.hid hbl; have HXl : Hid (L.map (fun x => x.2) = (stkF ps).take Z) := Lib.hid hsnd
    have HNM : Hid (nM + 1 ≤ k + 1) := Lib.hid (by omega)
    obtain ⟨hb, hhb⟩ : ∃ hb, decide (x ∈ L.map (fun x => x.2)) = hb := ⟨_, rfl⟩
    rw [hhb]
    have HHB := Lib.hid hhb
    have hpsk : k ≤ 600 := by omega
    clear hLV hCX hrec hnM hsnd hLb hpx hrx hob hg hxm hps hps2 hpsl hgk hCBr hRr hPX hAX p0 a0 c0 u0 u1 hrec1 hbl hlv1 hhb hpl hk hm1
    cases hb with
    | true =>
      have hin := of_decide_eq_true HHB.out
      have hin2 : x ∈ (stkF ps).take Z := by rw [← HXl.out]; exact hin
      rw [if_pos hin2] at hlr
      have hfin := HFIN.out W1 ((b, x) :: L.filter (fun y => decide (y.2 ≠ x))) (nM + 1) HREC1.out HNM.out (HLV1.out.mono (fun _ _ h => List.mem_cons_of_mem _ h)) (by rw [hlr, Int.add_zero]; exact HC1.out) (by rw [mv_snd, HXl.out, stkF_snoc]; exact cache_hit (stkF_nodup ps) hin2) (fun k' hk' => by
        simp only [List.map_cons, List.mem_cons] at hk'
        rcases hk' with e | e
        · subst e; rcases HBL.out with h | h; exact .inl h; exact .inr h
        · obtain ⟨y, hy, rfl⟩ := List.mem_map.1 e
          exact .inl (List.mem_map.2 ⟨y, (List.mem_filter.1 hy).1, rfl⟩))
      clear hin hin2 hlr hbd
      gi_wp2
      exact hfin
    | false =>
      have hin := of_decide_eq_false HHB.out
      have hin2 : x ∉ (stkF ps).take Z := by rw [← HXl.out]; exact hin
      rw [if_neg hin2] at hlr
      have HLR := Lib.hid hlr
      have hrec2 := HREC1.out
      rw [filt_none hin] at hrec2
      have hsn2 : ((b, x) :: L).map (fun x => x.2) = x :: (stkF ps).take Z := by rw [List.map_cons, HXl.out]
      obtain ⟨c1, c1f⟩ := blk1 HC1.out
      have hset := lv_set W1 CB 0 (.int .i64 (lruN ps Z k + 1))
      have HC2 := Lib.hid (blk1_set (b := .int .i64 (lruN ps Z k + 1)) HC1.out)
      have hCBn : ∀ k', k' ∈ mb :: e0 :: ((b, x) :: L).map (fun x => x.1) → k' ≠ CB := fun k' hk' e => by
        subst e
        rcases List.mem_cons.1 hk' with e | h
        · exact map_ne_ent hrec2.2.1 HC1.out e.symm
        · obtain ⟨⟨la, er, -, -, h3⟩, -⟩ := hrec2
          obtain ⟨cc, he⟩ := ring_ent h3 (by rcases List.mem_cons.1 h with e | h; exact .inl e; exact .inr h)
          unfold EntB at he
          rw [HC1.out] at he
          simp at he
      have HREC2 := Lib.hid (hrec2.lv hset (fun k' hk' => hCBn k' hk'))
      have HP2 := Lib.hid (hset.heap HP1.out (fun e => by omega)); have HA2 := Lib.hid (hset.heap HA1.out (fun e => by omega))
      have HLV2 : Hid (Lv (fun b => b ∈ CB :: mb :: e0 :: L.map (fun x => x.1)) X (W1.setCell ⟨CB, 0, none⟩ (.int .i64 (lruN ps Z k + 1)))) := Lib.hid (HLV1.out.trans hset (fun _ _ h => List.mem_cons_of_mem _ h) (fun _ _ h => by simp [h]))
      have HCBN := Lib.hid hCBn
      obtain ⟨W2, hW2⟩ : ∃ W2, W1.setCell ⟨CB, 0, none⟩ (.int .i64 (lruN ps Z k + 1)) = W2 := ⟨_, rfl⟩
      rw [hW2] at HREC2 HP2 HA2 HLV2 HC2
      have E3 : Ext W2 W2.drew := (Ext.refl W2).drew
      obtain ⟨q0, -⟩ := blk1 (E3.blk HP2.out); obtain ⟨q1', -⟩ := blk1 (E3.blk HA2.out)
      have hlrb : lruN ps Z k ≤ 600 := by omega
      have hLb2 : ∀ k' ∈ ((b, x) :: L).map (fun x => x.1), k' ∈ L.map (fun x => x.1) ∨ X.heap.size ≤ k' := fun k' hk' => by
        simp only [List.map_cons, List.mem_cons] at hk'
        rcases hk' with e | e
        · subst e; rcases HBL.out with h | h; exact .inl h; exact .inr h
        · exact .inl e
      have HLB2 := Lib.hid hLb2
      have HSN := Lib.hid hsn2; have HIN := Lib.hid hin2
      have HWL : Hid (∀ W : World, W2.heap.size ≤ W.heap.size → X.heap.size ≤ W.heap.size) := Lib.hid (fun W h => by have := HLV2.out.size; omega)
      obtain ⟨hgt, hhgt⟩ : ∃ hb, decide (Z < L.length + 1) = hb := ⟨_, rfl⟩
      have HGT := Lib.hid hhgt
      clear hin hin2 hlr hrec2 hsn2 hset hCBn hLb2 hhgt
      cases hgt with
      | true =>
        have hgtI : (Z : Int) < ((L.length + 1 : Nat) : Int) := by have := of_decide_eq_true HGT.out; omega
        gi_wp2_with (fail)
        try rw [hW2]
        refine wpIn_round_last (S := (fun W => W.cell? ⟨g0 + 1, 0, none⟩ = some (.iface 61 (.agg #[.map (some mb), .pointer (some ⟨e0, 0, none⟩)])) ∧ W.cell? ⟨g0, 0, none⟩ = some (.int .i64 (Z : Int)))) (by kernel_rfl) (by kernel_rfl) (fun ⟨_, _, h⟩ => h) ⟨q0, q1'⟩ (fun hHeld => ?_)
        refine tkL (some 28) 0 ?vt1 rfl (by kernel_rfl) (by kernel_rfl) (fun _ _ _ h => h) (Or.inl ⟨by rfl, ?hyt1⟩) (by assumption) ?rt1
        case hyt1 => intro w hSw; (try dsimp only at hSw); go_simp; first | done | with_reducible rfl
        case' rt1 => try simp only [Act.put, List.setIfInBounds_toArray, List.set_cons_zero, List.set_cons_succ]
        refine tkL (some 30) 2 ?vt2 rfl (by kernel_rfl) (by kernel_rfl) (fun _ _ _ h => h) (Or.inl ⟨by rfl, ?hyt2⟩) (by assumption) ?rt2
        case hyt2 => intro w hSw; (try dsimp only at hSw); go_simp; first | done | with_reducible rfl
        case' rt2 => try simp only [Act.put, List.setIfInBounds_toArray, List.set_cons_zero, List.set_cons_succ]
        refine oneL (i := 1) rfl (by kernel_rfl) (fun K9 hK => ?_)
        (go_simp; refine (count_any mb e0 (nM + 1) ((b, x) :: L) _ (HREC2.out.ext (Ext.refl W2).drew)).mono ?_; rintro e v4 ⟨rfl, hE4⟩; have EX : Ext W2 v4 := (Ext.refl W2).drew.trans hE4; have HEX := Lib.hid EX)
        refine hK.out _ _ ⟨hE4.keep q0, hE4.keep q1'⟩ (fun hHt3 => ?_)
        clear hK K9
        try simp only [Act.put, List.setIfInBounds_toArray, List.set_cons_zero, List.set_cons_succ]
        refine lastL (i := 3) rfl (by kernel_rfl) (by kernel_rfl) (fun K9 hK => ?_)
        go_simp
        refine hK.out _ _ ?_
        clear hK K9
        try simp only [Act.put, List.setIfInBounds_toArray, List.set_cons_zero, List.set_cons_succ]
        obtain ⟨q2, -⟩ := blk1 (HEX.out.blk HP2.out)
        clear hHeld q0 q1' hE4 EX
        gi_wp2_with (fail)
        refine ⟨trivial, ?_⟩
        obtain ⟨l, bb, cc, hl⟩ : ∃ l bb cc, (b, x) :: L = l ++ [(bb, cc)] := ⟨((b, x) :: L).dropLast, (((b, x) :: L).getLast (by simp)).1, (((b, x) :: L).getLast (by simp)).2, (List.dropLast_concat_getLast (by simp)).symm⟩
        have hll : l.length = L.length := by have h := congrArg List.length hl; rw [List.length_append, List.length_cons] at h; simp at h; omega
        have hrecl := HREC2.out.ext HEX.out
        rw [hl] at hrecl
        refine CallsIn.mono (F := Fence.wide.inRound l2) (callsIn_wide.2 (drop_any mb e0 (nM + 1) l bb cc v4 hrecl)) ?_
        rintro e W5 ⟨rfl, hrec5, hlv5⟩
        have hsub : ∀ k' ∈ l.map (fun x => x.1), k' ∈ ((b, x) :: L).map (fun x => x.1) := fun k' hk' => by rw [hl, List.map_append]; exact List.mem_append_left _ hk'
        have hZL : Z = L.length := by have := of_decide_eq_true HGT.out; omega
        have hsl : l.map (fun x => x.2) = (stkF (ps ++ [x])).take Z := by
          have h1 := HSN.out
          rw [hl, List.map_append] at h1
          rw [stkF_snoc, ← cache_miss HIN.out, ← h1]
          exact (List.take_left' (by rw [List.length_map]; omega)).symm
        have hX4 : X.heap.size ≤ v4.heap.size := HWL.out v4 HEX.out.size_le
        have hfin := HFIN.out W5 l (nM + 1) hrec5 HNM.out ((HLV2.out.trans (HEX.out.lv (D := fun _ => False)) (E := fun b' => b' ∈ CB :: mb :: e0 :: L.map (fun x => x.1)) (fun _ _ h => h) (fun _ _ h => h.elim)).trans hlv5 (fun _ _ h => h) (fun b' hb' h => by
          simp only [List.mem_cons] at h ⊢
          rcases h with h | h | h
          · exact .inr (.inl h)
          · exact .inr (.inr (.inl h))
          · rcases HLB2.out b' (hsub b' h) with h2 | h2
            · exact .inr (.inr (.inr h2))
            · omega)) (by rw [HLR.out]; exact hlv5.heap (HEX.out.blk HC2.out) (fun h => HCBN.out CB (by
          simp only [List.mem_cons] at h ⊢
          rcases h with h | h | h
          · exact .inl h
          · exact .inr (.inl h)
          · exact .inr (.inr (by have h2 := hsub CB h; simpa using h2))) rfl)) hsl (fun k' hk' => HLB2.out k' (hsub k' hk'))
        gi_wp2
        exact hfin
      | false =>
        have hgtI : ¬ (Z : Int) < ((L.length + 1 : Nat) : Int) := by have := of_decide_eq_false HGT.out; omega
        gi_wp2_with (fail)
        try rw [hW2]
        refine wpIn_round_last (S := (fun W => W.cell? ⟨g0 + 1, 0, none⟩ = some (.iface 61 (.agg #[.map (some mb), .pointer (some ⟨e0, 0, none⟩)])) ∧ W.cell? ⟨g0, 0, none⟩ = some (.int .i64 (Z : Int)))) (by kernel_rfl) (by kernel_rfl) (fun ⟨_, _, h⟩ => h) ⟨q0, q1'⟩ (fun hHeld => ?_)
        refine tkL (some 28) 0 ?vf1 rfl (by kernel_rfl) (by kernel_rfl) (fun _ _ _ h => h) (Or.inl ⟨by rfl, ?hyf1⟩) (by assumption) ?rf1
        case hyf1 => intro w hSw; (try dsimp only at hSw); go_simp; first | done | with_reducible rfl
        case' rf1 => try simp only [Act.put, List.setIfInBounds_toArray, List.set_cons_zero, List.set_cons_succ]
        refine tkL (some 30) 2 ?vf2 rfl (by kernel_rfl) (by kernel_rfl) (fun _ _ _ h => h) (Or.inl ⟨by rfl, ?hyf2⟩) (by assumption) ?rf2
        case hyf2 => intro w hSw; (try dsimp only at hSw); go_simp; first | done | with_reducible rfl
        case' rf2 => try simp only [Act.put, List.setIfInBounds_toArray, List.set_cons_zero, List.set_cons_succ]
        refine oneL (i := 1) rfl (by kernel_rfl) (fun K9 hK => ?_)
        (go_simp; refine (count_any mb e0 (nM + 1) ((b, x) :: L) _ (HREC2.out.ext (Ext.refl W2).drew)).mono ?_; rintro e v4 ⟨rfl, hE4⟩; have EX : Ext W2 v4 := (Ext.refl W2).drew.trans hE4; have HEX := Lib.hid EX)
        refine hK.out _ _ ⟨hE4.keep q0, hE4.keep q1'⟩ (fun hHf3 => ?_)
        clear hK K9
        try simp only [Act.put, List.setIfInBounds_toArray, List.set_cons_zero, List.set_cons_succ]
        refine lastL (i := 3) rfl (by kernel_rfl) (by kernel_rfl) (fun K9 hK => ?_)
        go_simp
        refine hK.out _ _ ?_
        clear hK K9
        try simp only [Act.put, List.setIfInBounds_toArray, List.set_cons_zero, List.set_cons_succ]
        clear hHeld q0 q1' hE4 EX
        have hfin := HFIN.out v4 ((b, x) :: L) (nM + 1) (HREC2.out.ext HEX.out) HNM.out (HLV2.out.trans (HEX.out.lv (D := fun _ => False)) (fun _ _ h => h) (fun _ _ h => h.elim)) (by rw [HLR.out]; exact HEX.out.blk HC2.out) (by rw [HSN.out, stkF_snoc, ← cache_miss HIN.out]; refine (List.take_of_length_le ?_).symm; rw [← HSN.out, List.length_map]; have := of_decide_eq_false HGT.out; simp only [List.length_cons]; omega) HLB2.out
        gi_wp2
        exact hfin
  case done =>
    rintro E ow X hE6 hEn ⟨L, nM, rfl, hLV, hCX, hrec, hnM, hsnd, hLb⟩ hob hv6 hz hdf
    have hul : (usL xs (nxL xs n)).length = n := by rw [usL_len (by rw [nxL_len]), HN.out]
    rw [hul, usL_fst (by rw [nxL_len])] at hCX
    have XE := Lib.hid hdf
    have HLV := Lib.hid hLV
    obtain ⟨c0, -⟩ := blk1 hCX
    have HEE : Hid (g0 + 3 ≤ E) := Lib.hid (by omega)
    clear hLV hCX hrec hnM hsnd hLb hob hv6 hz hdf hE6 hEn
    gi_wp2_with (fail)
    refine leaves_marks2 [E] _ (fun E' h => by simp at h; subst h; exact XE.out) (by simp) (fun W' hW' => ?_)
    refine ⟨.int .i64 (lruN xs Z n), by simp [results, Try.results33, go_sem], rfl, ?_⟩
    have h1 := (HEb.out.lv (D := fun _ => False)).trans HLV.out (E := fun k => k = mb ∨ k = e0) (fun _ _ h => h.elim) (fun b hb h => by have := HG0.out; simp at h; omega)
    exact h1.trans hW' (fun _ _ h => h) (fun b hb h => by have := HG0.out; have := HEE.out; simp at h; omega)
  case stop =>
    rintro E cd qq ow X hE6 hEn hq h hob hv6 hz hdf
    exact h.elim
end Go.Proofs.Ytggpjapmhakklaa
