/- The texts Qe8 Qe9, joined. No statement is proved here. -/
import Derived.Test.YtccibfldadflkaaK41
import Derived.Test.YtccibfldadflkaaK37
/- The cache that knows what comes: drop. No statement is proved here. -/
namespace Go.Proofs.Ytccibfldadflkaa
open Go.RowKit Go.Maps

theorem del_held {H : List Int} {c : Int} (hn : H.Nodup) : delF (heldF H) c = heldF (H.erase c) := by
  funext x
  unfold delF heldF
  by_cases e : x = c
  · subst e; rw [if_pos rfl, if_neg (fun h => (List.Nodup.mem_erase_iff hn).1 h |>.1 rfl)]
  · rw [if_neg e]
    by_cases hx : x ∈ H
    · rw [if_pos hx, if_pos ((List.Nodup.mem_erase_iff hn).2 ⟨e, hx⟩)]
    · rw [if_neg hx, if_neg (fun h => hx (List.mem_of_mem_erase h))]
theorem run_fld (a b : Int) (w : World) : (Instr.field 121 (.agg #[.int .i64 a, .int .i64 b]) 0).run Try.prog w = .ok (.int .i64 a) w := by kernel_rfl

set_option linter.unusedVariables false in
set_option linter.unusedSimpArgs false in
set_option maxRecDepth 100000 in
set_option maxHeartbeats 4000000 in
theorem dropF_any (B mb g N c o : Nat) (H : List Int) (hs : List Us) (w : World) (h : FoS B mb g w N H (some ⟨o, 0, none⟩) c hs) (h0 : 0 < hs.length) (hl : hs.length ≤ 1000) (hin : (itU hs 0).1 ∈ H) :
    Calls Try.prog 151 #[.agg #[.map (some mb), .pointer (some ⟨g, 0, none⟩)]] w fun e w' => e = .returned (.tuple #[]) ∧
      (∃ hs', FoS B mb g w' N (H.erase (itU hs 0).1) (some ⟨o, 0, none⟩) c hs' ∧ (itU hs 0 :: hs').Perm hs) ∧ Lv (fun k => k = mb ∨ k = g ∨ k = o) w w' := by
  obtain ⟨n, hn⟩ : ∃ n, hs.length = n + 1 := ⟨hs.length - 1, by omega⟩
  have hzi := h.2.2.2.2.2.2 _ hin
  obtain ⟨g0, hg0⟩ : ∃ g, w.heap.size = g := ⟨_, rfl⟩
  obtain ⟨W0, hW0⟩ : ∃ W0, w.alloc (.cells #[.map (some mb), .pointer (some ⟨g, 0, none⟩)] 66) = W0 := ⟨_, rfl⟩
  have E0 : Ext w W0 := by rw [← hW0]; exact (Ext.refl w).alloc _
  have B0 : W0.heap[g0]? = some (.cells #[.map (some mb), .pointer (some ⟨g, 0, none⟩)] 66 (0, 0)) := by rw [← hW0]; exact blk_at hg0.symm
  obtain ⟨hmap, hq, hok, hmg, hmo, hnd, hi⟩ := h.ext E0
  rw [hn] at hq hok hmo
  have hmbl : mb < g0 := by rw [← hg0]; exact h.1.lt
  have hgl : g < g0 := by rw [← hg0]; exact lt_of_block h.2.1.1
  have hol : o < g0 := by rw [← hg0]; exact (World.ownsRow.lt h.2.1.2.1 o rfl).2
  have hom : o ≠ mb := fun e => hmo (by rw [← e]; rfl)
  have HT := Lib.hid (fun (X : World) (hX : QuV B g X (some ⟨o, 0, none⟩) (n + 1) c hs) => queueTake_any B g n c o hs X hX hok (by omega))
  have HFIN : Hid (∀ (W1 W4 : World) (hs' : List Us), QuV B g W1 (some ⟨o, 0, none⟩) n c hs' → hpU hs' n → IMc W4 mb N (delF (heldF H) (itU hs 0).1) (if (heldF H (itU hs 0).1).isSome = true then H.length - 1 else H.length) → Lv (fun k => k = mb) W1 W4 → FoS B mb g W4 N (H.erase (itU hs 0).1) (some ⟨o, 0, none⟩) c hs') := Lib.hid (fun W1 W4 hs' hq1 hok1 hm4 hl4 => by
    rw [del_held hnd, (held_get H _).2, if_pos (by simpa using hin)] at hm4
    have hle : hs'.length = n := hq1.2.2.1
    refine ⟨by rw [List.length_erase_of_mem hin]; exact hm4, by rw [hle]; exact hq1.lv hl4 (fun e => hmg (Eq.symm e)) (fun b hb e => by have e2 : b = mb := e; simp only [Value.ownBlock, Option.some.injEq] at hb; omega), by rw [hle]; exact hok1, hmg, by simpa [Value.ownBlock] using hom, hnd.erase _, fun x hx => hi x (List.mem_of_mem_erase hx)⟩)
  have HM := Lib.hid hmap; have HQ := Lib.hid hq; have HE0 := Lib.hid E0; have HB0 := Lib.hid B0
  obtain ⟨z, hz⟩ : ∃ z, itU hs 0 = z := ⟨_, rfl⟩
  rw [hz] at HFIN HT hzi ⊢
  obtain ⟨z1, z2⟩ := z
  dsimp only at HFIN HT hzi ⊢
  have EX : Ext W0 W0.drew := (Ext.refl W0).drew
  obtain ⟨wd, hwd⟩ : ∃ wd, W0.drew = wd := ⟨_, rfl⟩
  rw [hwd] at EX
  have HWD := Lib.hid hwd
  obtain ⟨s0, s1, -, -⟩ := blk2 (EX.blk B0)
  have HQd := Lib.hid (hq.ext EX); have HMd := Lib.hid (hmap.lv (EX.lv (D := fun _ => False)) (fun h => h)); have HBd := Lib.hid (EX.blk B0); have HEd := Lib.hid (E0.trans EX)
  have hfl := run_fld z1 z2
  obtain ⟨r0, r1, -, -⟩ := blk2 B0
  clear h hmap hq hok hmo hnd hi E0 B0 hin hwd EX
  go_enter Try.func151, Try.ntmps151
  go_upto_region 1 with (fail)
  try rw [hW0]
  try rw [hg0]
  refine wp_region_last (S := (fun W => W.cell? ⟨g0, 0, none⟩ = some (.map (some mb)) ∧ W.cell? ⟨g0, 1, none⟩ = some (.pointer (some ⟨g, 0, none⟩)))) (by kernel_rfl) (by rw [HWD.out]; exact ⟨s0, s1⟩) (fun hHeld => ?_)
  rw [HWD.out] at hHeld ⊢
  refine tkL (some 2) 0 ?vd1 rfl (by kernel_rfl) (by kernel_rfl) (fun _ _ _ h => h) (Or.inl ⟨by rfl, ?hyd1⟩) (by assumption) ?rd1
  case hyd1 => intro w hSw; (try dsimp only at hSw); go_simp; first | done | with_reducible rfl
  case' rd1 => try simp only [Act.put, List.setIfInBounds_toArray, List.set_cons_zero, List.set_cons_succ]
  refine tkL (some 3) 1 ?vd2 rfl (by kernel_rfl) (by kernel_rfl) (fun _ _ _ h => h) (Or.inl ⟨by rfl, ?hyd2⟩) (by assumption) ?rd2
  case hyd2 => intro w hSw; (try dsimp only at hSw); go_simp; first | done | with_reducible rfl
  case' rd2 => try simp only [Act.put, List.setIfInBounds_toArray, List.set_cons_zero, List.set_cons_succ]
  refine tkL (some 4) 2 ?vd3 rfl (by kernel_rfl) (by kernel_rfl) (fun _ _ _ h => h) (Or.inl ⟨by rfl, ?hyd3⟩) (by assumption) ?rd3
  case hyd3 => intro w hSw; (try dsimp only at hSw); go_simp; first | done | with_reducible rfl
  case' rd3 => try simp only [Act.put, List.setIfInBounds_toArray, List.set_cons_zero, List.set_cons_succ]
  refine tkL (some 5) 3 ?vd4 rfl (by kernel_rfl) (by kernel_rfl) (fun _ _ _ h => h) (Or.inl ⟨by rfl, ?hyd4⟩) (by assumption) ?rd4
  case hyd4 => intro w hSw; (try dsimp only at hSw); go_simp; first | done | with_reducible rfl
  case' rd4 => try simp only [Act.put, List.setIfInBounds_toArray, List.set_cons_zero, List.set_cons_succ]
  refine oneL (i := 4) rfl (by kernel_rfl) (fun K9 hK => ?_)
  go_simp
  refine (HT.out wd HQd.out).mono ?_
  rintro e w1 ⟨rfl, ⟨hs', hq1, hp1, hok1⟩, hl1⟩
  have hB1 := hl1.heap HBd.out (fun h => by have h2 : g0 = g ∨ g0 = o := h; omega)
  refine hK.out _ _ ⟨(blk2 hB1).1, (blk2 hB1).2.1⟩ (fun hHeld1 => ?_)
  clear hK K9
  try simp only [Act.put, List.setIfInBounds_toArray, List.set_cons_zero, List.set_cons_succ]
  refine tkL (some 7) 5 ?vd5 rfl (by kernel_rfl) (by kernel_rfl) (fun _ _ _ h => h) (Or.inl ⟨by rfl, ?hyd5⟩) (by assumption) ?rd5
  case hyd5 => intro w hSw; (try dsimp only at hSw); go_simp; first | done | with_reducible rfl
  case' rd5 => try simp only [Act.put, List.setIfInBounds_toArray, List.set_cons_zero, List.set_cons_succ]
  have hm1 := HMd.out.lv hl1 (fun h => by have h2 : mb = g ∨ mb = o := h; rcases h2 with h2 | h2; exact hmg h2; exact hom h2.symm)
  refine lastL (i := 6) rfl (by kernel_rfl) (by kernel_rfl) (fun K9 hK => ?_)
  (obtain ⟨w4, hrun, hm4, hg4⟩ := hm1.del undMapB (wfI hzi.1 hzi.2) 0; go_simp)
  refine hK.out _ _ ?_
  clear hK K9
  try simp only [Act.put, List.setIfInBounds_toArray, List.set_cons_zero, List.set_cons_succ]
  have hl4 := grown_lv hg4
  have HF4 := Lib.hid (HFIN.out w1 w4 hs' hq1 hok1 hm4 hl4)
  have HL4 := Lib.hid (((HEd.out.lv (D := fun _ => False)).trans hl1 (E := fun k => k = mb ∨ k = g ∨ k = o) (fun _ _ h => h.elim) (fun _ _ h => .inr h)).trans hl4 (fun _ _ h => h) (fun _ _ h => .inl h))
  have HP4 := Lib.hid hp1
  clear hm4 hl4 hg4 hrun hm1 hq1 hok1 hl1 s0 s1 r0 r1 hp1 hB1
  go_wp2
  go_end0
  exact ⟨rfl, ⟨hs', HF4.out, by rw [← hz]; exact hz ▸ HP4.out⟩, HL4.out⟩
end Go.Proofs.Ytccibfldadflkaa

/- Misses of the program with a cache that knows what comes, out of what it needs of pure lists (BmP) (by qe9.py, out of U9). No statement is proved here. -/
namespace Go.Proofs.Ytccibfldadflkaa
open Go.RowKit Go.Maps
attribute [local go_sem] Oper.semAt_some

theorem methF_hold (mb e0 : Nat) (fl : Nat) (X : World) : (method (fl + 1) 66 (.agg #[.map (some mb), .pointer (some ⟨e0, 0, none⟩)]) "loop.example/loopnests/impl.hold").run Try.prog X = .ok (152, .agg #[.map (some mb), .pointer (some ⟨e0, 0, none⟩)]) X := by kernel_rfl
theorem methF_count (mb e0 : Nat) (fl : Nat) (X : World) : (method (fl + 1) 66 (.agg #[.map (some mb), .pointer (some ⟨e0, 0, none⟩)]) "loop.example/loopnests/impl.count").run Try.prog X = .ok (150, .agg #[.map (some mb), .pointer (some ⟨e0, 0, none⟩)]) X := by kernel_rfl
theorem methF_drop (mb e0 : Nat) (fl : Nat) (X : World) : (method (fl + 1) 66 (.agg #[.map (some mb), .pointer (some ⟨e0, 0, none⟩)]) "loop.example/loopnests/impl.drop").run Try.prog X = .ok (151, .agg #[.map (some mb), .pointer (some ⟨e0, 0, none⟩)]) X := by kernel_rfl

/-- What is asked of the pure side: Rl k H hs relates the program's cells and accesses behind k accesses to the model's, cnt k is the number of misses so far. -/
structure BmP (xs : List Int) (Z : Nat) (Rl : Nat → List Int → List Us → Prop) (cnt : Nat → Int) : Prop where
  cz : cnt 0 = 0
  cb : ∀ k, 0 ≤ cnt k ∧ cnt k ≤ k
  zero : Rl 0 [] []
  hit : ∀ k x H hs hs1, xs[k]? = some x → Rl k H hs → hs1.Perm ((x, (nxV xs k : Int)) :: hs) → x ∈ H → cnt (k + 1) = cnt k ∧ Rl (k + 1) H hs1
  miss : ∀ k x H hs hs1, xs[k]? = some x → Rl k H hs → hs1.Perm ((x, (nxV xs k : Int)) :: hs) → x ∉ H → cnt (k + 1) = cnt k + 1 ∧ (H.length + 1 ≤ Z → Rl (k + 1) (H ++ [x]) hs1) ∧
    (Z < H.length + 1 → ∀ z hs2, (z :: hs2).Perm hs1 → (∀ u ∈ hs1, u.2 ≤ z.2) → z.1 ∈ H ++ [x] ∧ Rl (k + 1) ((H ++ [x]).erase z.1) hs2)

theorem FoS.base {B mb g N c : Nat} {H : List Int} {hs : List Us} {w : World} (h : FoS B mb g w N H none c hs) (B' : Nat) : FoS B' mb g w N H none c hs := by
  refine ⟨h.1, ⟨h.2.1.1, ?_, h.2.1.2.2⟩, h.2.2⟩
  have h2 := h.2.1.2.1
  rcases h2.2 with h3 | ⟨g, cap, cur, hv, _⟩
  · exact ⟨h2.1, .inl h3⟩
  · cases hv

/-- What the consumer of the accesses holds: the number of misses, and the cache. -/
def FmI (wb : World) (Rl : Nat → List Int → List Us → Prop) (cnt : Nat → Int) (CB mb e0 : Nat) (s : List (Int × Int)) (own : List Nat) (X : World) : Prop :=
  ∃ p cap H hs, own = CB :: mb :: e0 :: (Value.slice p hs.length cap).ownBlock.toList ∧ Lv (fun b => b ∈ [CB, mb, e0]) wb X ∧ X.heap[CB]? = some (.cells #[.int .i64 (cnt s.length)] 3 (0, 0)) ∧ FoS wb.heap.size mb e0 X s.length H p cap hs ∧ hs.length ≤ s.length ∧ Rl s.length H hs
theorem FmI.stable (wb : World) (Rl : Nat → List Int → List Us → Prop) (cnt : Nat → Int) (CB mb e0 : Nat) : StableB wb.heap.size (FmI wb Rl cnt CB mb e0) := by
  rintro s own X X' ⟨p, cap, H, hs, rfl, h1, h2, h3, h4, h5⟩ hv
  exact ⟨p, cap, H, hs, rfl, h1.trans hv (fun _ _ h => h) (fun b hb h => by omega), hv.heap h2 (fun h => h.1 (by simp)), h3.lv hv (fun h => h.1 (by simp)) (fun h => h.1 (by simp)) (fun b hb h => h.1 (by simp [hb])), h4, h5⟩

set_option linter.unusedVariables false in
set_option linter.unusedSimpArgs false in
set_option maxRecDepth 100000 in
set_option maxHeartbeats 4000000 in
theorem missesFo_any (p : Option Addr) (n c Z mb e0 B0 : Nat) (xs : List Int) (Rl : Nat → List Int → List Us → Prop) (cnt : Nat → Int) (hbm : BmP xs Z Rl cnt) (w : World) (hn : xs.length = n) (hm : n ≤ 600) (hZ : Z ≤ 40) (hx : ∀ x ∈ xs, i64 x) (hs : IntsAt w (.slice p n c) xs) (hrec : FoS B0 mb e0 w 0 [] none 0 []) (hB00 : B0 ≤ w.heap.size) (hpb : ∀ b o, p = some ⟨b, o, none⟩ → 0 < n → b ≠ mb ∧ b ≠ e0) :
    Calls Try.prog 30 #[.slice p n c, .int .i64 (Z : Int), .iface 66 (.agg #[.map (some mb), .pointer (some ⟨e0, 0, none⟩)])] w fun e w' => e = .returned (.int .i64 (cnt n)) ∧ Lv (fun k => k = mb ∨ k = e0) w w' := by
  have HN := Lib.hid hn; have HS := Lib.hid hs; have HX := Lib.hid hx; have HREC := Lib.hid hrec
  have hrl := hrec.lt
  have HBM := Lib.hid hbm
  clear hn hs hx hrec hbm
  refine (callsIn_wide (n := 6)).1 ?_
  refine callsIn_of_wp_marks Try.func30 rfl trivial ?_ rfl
  simp only [Try.ntmps30, List.size_toArray, List.length_cons, List.length_nil, Nat.reduceAdd, Nat.reduceSub, Array.replicate_succ, Array.replicate_zero, List.push_toArray, List.append_toArray, List.nil_append, List.cons_append]
  have hdd : ∀ j : Nat, (Fence.wide.depth.isSome = true → 1 ≤ j) := fun j h => by cases h
  obtain ⟨g0, hg0⟩ : ∃ g0, w.heap.size = g0 := ⟨_, rfl⟩
  have hmI : ¬ (600 : Int) < (n : Int) := by omega
  have hZ0 : ¬ (Z : Int) < 0 := by omega
  have hZ1 : ¬ (40 : Int) < (Z : Int) := by omega
  gi_wp2_with (fail)
  obtain ⟨W2, hW2⟩ : ∃ W2, ((w.alloc (.cells #[.int .i64 (Z : Int)] 3)).alloc (.cells #[.iface 66 (.agg #[.map (some mb), .pointer (some ⟨e0, 0, none⟩)])] 116)).alloc (.cells #[.int .i64 0] 3) = W2 := ⟨_, rfl⟩
  have hs2 : W2.heap.size = g0 + 3 := by rw [← hW2]; simp [hg0]
  have E2 : Ext w W2 := by rw [← hW2]; exact (((Ext.refl w).alloc _).alloc _).alloc _
  have A2 : W2.heap[g0]? = some (.cells #[.int .i64 (Z : Int)] 3 (0, 0)) := by rw [← hW2]; exact blk_old (blk_old (blk_at hg0.symm))
  have P2 : W2.heap[g0 + 1]? = some (.cells #[.iface 66 (.agg #[.map (some mb), .pointer (some ⟨e0, 0, none⟩)])] 116 (0, 0)) := by rw [← hW2]; exact blk_old (blk_at (by simp [hg0]))
  have C2 : W2.heap[g0 + 2]? = some (.cells #[.int .i64 0] 3 (0, 0)) := by rw [← hW2]; exact blk_at (by simp [hg0])
  rw [hg0] at hrl
  have hmbl := hrl.1; have he0l := hrl.2
  have HREC2 := Lib.hid (HREC.out.ext E2); have HA2 := Lib.hid A2; have HP2 := Lib.hid P2; have HC2 := Lib.hid C2; have HS2 := Lib.hid hs2; have HSB := Lib.hid (HS.out.ext E2); have HG0 := Lib.hid hg0; have HE2 := Lib.hid E2
  have HPB : Hid (∀ b o, p = some ⟨b, o, none⟩ → 0 < n → b < g0 ∧ b ≠ mb ∧ b ≠ e0) := Lib.hid (fun b o e h0 => ⟨by rw [← hg0]; exact HS.out.blk_lt (by rw [HN.out]; exact h0) e, hpb b o e h0⟩)
  clear E2 A2 P2 C2 hs2 hg0 hrl hpb
  try rw [hW2]
  clear hW2
  refine ⟨trivial, ?_⟩
  refine (callsIn_wide.2 (uses_call p n c xs W2 HN.out hm HX.out HSB.out)).mono ?_
  rintro e wb ⟨PT, PN, q1, d1, rfl, hE, hPT, hPN, hbT, hbN, hnx⟩
  rw [HS2.out] at hPT hPN hnx
  have HQB : Hid (∀ b o, q1 = some ⟨b, o, none⟩ → g0 + 3 ≤ b ∧ b < wb.heap.size) := Lib.hid (fun b o e => by subst e; exact World.ownsRow.lt hnx b rfl)
  have hnxl : (nxL xs n).length = n := by rw [nxL_len, HN.out]
  have HEb := Lib.hid (HE2.out.trans hE); have HRECb := Lib.hid (HREC2.out.ext hE); have HAb := Lib.hid (hE.blk HA2.out); have HPb := Lib.hid (hE.blk HP2.out); have HCb := Lib.hid (hE.blk HC2.out); have HSb := Lib.hid (HSB.out.ext hE); have HT := Lib.hid hbT; have HNb := Lib.hid hbN; have HNX := Lib.hid hnx.at
  have hPTl := lt_of_block hbT; have hPNl := lt_of_block hbN
  have hbz : g0 + 3 ≤ wb.heap.size := by have := hE.size_le; have := HS2.out; omega
  clear hE hbT hbN hnx HA2 HP2 HC2 HREC2 HE2 HSB
  obtain ⟨CB, hCB⟩ : ∃ CB, g0 + 1 + 1 = CB := ⟨_, rfl⟩
  have hCB2 : g0 + 2 = CB := by omega
  rw [hCB2] at HCb
  try rw [hCB]
  gi_wp2_with (fail)
  refine wpIn_rangeFunc_baseA (w := wb) rfl (hdd _) (gf := 94) (lb := #[.pointer (some ⟨PT, 0, none⟩), .pointer (some ⟨PN, 0, none⟩)]) rfl trivial (enters_of Try.func94 (by kernel_rfl) rfl)
    wb.heap.size (Nat.le_refl _) (uses_seqB wb.heap.size _ _ PT PN n c d1 p q1 xs (nxL xs n) (fun b => b < wb.heap.size ∧ b ≠ CB ∧ b ≠ mb ∧ b ≠ e0) wb HN.out hm hnxl HSb.out HNX.out HT.out HNb.out (fun b h => h.1) ⟨hPTl, by omega, by omega, by omega⟩ ⟨hPNl, by omega, by omega, by omega⟩ (fun b o hb h0 => by have := HPB.out b o hb h0; exact ⟨by omega, by omega, by omega, by omega⟩) (fun b o hb h0 => by have := HQB.out b o hb; exact ⟨by omega, by omega, by omega, by omega⟩))
    (fun b h => h.1) (fun b h => h.elim) (fun x Wa Wb _ _ => trivial) (fun Wa Wb _ _ => trivial) (fun _ => rfl)
    (FmI wb Rl cnt CB mb e0) (fun cd s own X => False) (FmI.stable wb Rl cnt CB mb e0) (by
      rintro cd s o X X' h hv
      exact h.elim)
    [CB, mb, e0] (fun b hb => by simp at hb; rcases hb with rfl | rfl | rfl; exact ⟨by omega, fun h => h.2.1 rfl⟩; exact ⟨by omega, fun h => h.2.2.1 rfl⟩; exact ⟨by omega, fun h => h.2.2.2 rfl⟩) ⟨none, 0, [], [], rfl, Lv.refl _ _, by show _ = some (Obj.cells #[.int .i64 (cnt 0)] 3 (0, 0)); rw [HBM.out.cz]; exact HCb.out, HRECb.out.base _, Nat.le_refl _, HBM.out.zero⟩
    (fun (x : Int × Int) (a' : Act) (X : World) => ∃ g, X.heap[g]? = some (.cells #[.int .i64 x.1, .int .i64 x.2] 121 (0, 0)) ∧ a' = { tmps := #[.slice p n c, .int .i64 (Z : Int), .iface 66 (.agg #[.map (some mb), .pointer (some ⟨e0, 0, none⟩)]), undef, .pointer (some ⟨g0, 0, none⟩), .pointer (some ⟨g0 + 1, 0, none⟩), .int .i64 0, .pointer (some ⟨CB, 0, none⟩), .pointer (some ⟨g, 0, none⟩), .slice p n c, .int .i64 (n : Int), .bool false, .bool false, .int .i64 (Z : Int), .bool false, .bool false, .bool false, .int .i64 (Z : Int), .bool false, .bool false, .slice p n c, .func (.func 94) #[] #[.pointer (some ⟨PT, 0, none⟩), .pointer (some ⟨PN, 0, none⟩)], .agg #[.int .i64 x.1, .int .i64 x.2], undef, undef, undef, undef, undef, undef, undef, undef, undef, undef, undef, undef], defers := [] })
    ?ast ?assign ?body ?done ?stop
  case ast =>
    rintro x a' W W' l o ⟨g, h4, h5⟩ ho hv
    exact ⟨g, hv.heap h4 (fun e => by subst e; rw [h4] at ho; cases ho), h5⟩
  case assign =>
    intro l2 y X K hy hK
    obtain ⟨yc, yn⟩ := y
    dsimp only [encU]
    gi_wp2
    exact hK _ _ (Lv.alloc _ X _) ⟨X.heap.size, blk_at rfl, rfl⟩
  case body =>
    rintro l2 pre0 x ow a' X ⟨pq, cap, H, hs, rfl, hLV, hCX, hrec, hle, hrl⟩ hpx hrx hob ⟨g, hg, rfl⟩
    obtain ⟨x, nx⟩ := x
    dsimp only at hg
    have hxm : x ∈ xs := by
      have h1 : (x, nx) ∈ usL xs (nxL xs n) := List.IsPrefix.mem (by simp) hpx
      have h2 : x ∈ (usL xs (nxL xs n)).map (fun y => y.1) := List.mem_map.2 ⟨(x, nx), h1, rfl⟩
      rw [usL_fst (by rw [nxL_len])] at h2
      exact h2
    have hxi := HX.out x hxm
    obtain ⟨k, hk⟩ : ∃ k, pre0.length = k := ⟨_, rfl⟩
    have hpl := hpx.length_le
    rw [usL_len (by rw [nxL_len]), HN.out, List.length_append, hk, List.length_cons, List.length_nil] at hpl
    have hget : (usL xs (nxL xs n))[k]? = some (x, nx) := by
      obtain ⟨t, ht⟩ := hpx
      rw [← ht, List.append_assoc, List.getElem?_append_right (by omega), hk, Nat.sub_self]
      rfl
    have hkn : k < n := by omega
    have hxk : xs[k]? = some x ∧ nx = (nxV xs k : Int) := by
      have h0 : k < xs.length := by rw [HN.out]; exact hkn
      have h1 := nxL_get (xs := xs) (k := n) (j := k) h0
      rw [if_pos (by rw [HN.out]; omega)] at h1
      obtain ⟨x', hx'⟩ := get_some (xs := xs) (k := k) h0
      have h2 := usL_get hx' h1
      rw [hget] at h2
      simp only [Option.some.injEq, Prod.mk.injEq] at h2
      exact ⟨by rw [hx', h2.1], h2.2⟩
    obtain ⟨hxk, rfl⟩ := hxk
    rw [hk] at hCX hrec hle hrl
    have HXK := Lib.hid hxk; have HRL := Lib.hid hrl
    have hPX := hLV.heap HPb.out (fun h => by simp at h; omega)
    have hAX := hLV.heap HAb.out (fun h => by simp at h; omega)
    obtain ⟨p0, -⟩ := blk1 hPX
    obtain ⟨a0, -⟩ := blk1 hAX
    obtain ⟨c0, -⟩ := blk1 hCX
    obtain ⟨u0, u1, -, -⟩ := blk2 hg
    have hm1 := methF_hold mb e0; have hm2 := methF_count mb e0; have hm3 := methF_drop mb e0
    have hcb := HBM.out.cb k
    have hrow : ∀ b, (Value.slice pq hs.length cap).ownBlock = some b → wb.heap.size ≤ b := fun b hb => (World.ownsRow.lt hrec.2.1.2.1 b hb).1
    have hwX := hLV.size
    have HD : Hid (∀ b, b < wb.heap.size → b ≠ mb → b ≠ e0 → ¬ (b = mb ∨ b = e0 ∨ (Value.slice pq hs.length cap).ownBlock = some b)) := Lib.hid (fun b hb h1 h2 h => by
      rcases h with h | h | h
      · exact h1 h
      · exact h2 h
      · have := hrow b h; omega)
    have HFIN : Hid (∀ (W5 : World) (p' : Option Addr) (c' : Nat) (H' : List Int) (hs' : List Us), FoS wb.heap.size mb e0 W5 (k + 1) H' p' c' hs' → hs'.length ≤ k + 1 → Rl (k + 1) H' hs' → Lv (fun b => b ∈ CB :: mb :: e0 :: (Value.slice pq hs.length cap).ownBlock.toList) X W5 → W5.heap[CB]? = some (.cells #[.int .i64 (cnt (k + 1))] 3 (0, 0)) →
        (∀ b, (Value.slice p' hs'.length c').ownBlock = some b → (Value.slice pq hs.length cap).ownBlock = some b ∨ X.heap.size ≤ b) → ∃ own', Grew (CB :: mb :: e0 :: (Value.slice pq hs.length cap).ownBlock.toList) own' X W5 ∧ FmI wb Rl cnt CB mb e0 (pre0 ++ [(x, (nxV xs k : Int))]) own' W5) := Lib.hid (fun W5 p' c' H' hs' hr hl hq hv hc hb => by
      have hs1 := hv.size
      have hlen : (pre0 ++ [(x, (nxV xs k : Int))]).length = k + 1 := by rw [List.length_append, hk]; rfl
      refine ⟨CB :: mb :: e0 :: (Value.slice p' hs'.length c').ownBlock.toList, ⟨hv, fun b' hb' => ?_⟩, p', c', H', hs', rfl, hLV.trans hv (fun _ _ h => h) (fun b' hb' h => ?_), by rw [hlen]; exact hc, by rw [hlen]; exact hr, by rw [hlen]; exact hl, by rw [hlen]; exact hq⟩
      · simp only [List.mem_cons, Option.mem_toList] at hb' ⊢
        rcases hb' with e | e | e | e
        · exact ⟨.inl (.inl e), by rw [e]; exact lt_of_block hc⟩
        · exact ⟨.inl (.inr (.inl e)), by rw [e]; exact hr.lt.1⟩
        · exact ⟨.inl (.inr (.inr (.inl e))), by rw [e]; exact hr.lt.2⟩
        · refine ⟨?_, (World.ownsRow.lt hr.2.1.2.1 _ e).2⟩
          rcases hb _ e with h | h
          · exact .inl (.inr (.inr (.inr h)))
          · exact .inr h
      · simp only [List.mem_cons, Option.mem_toList, List.not_mem_nil, or_false] at h ⊢
        rcases h with h | h | h | h
        · exact .inl h
        · exact .inr (.inl h)
        · exact .inr (.inr h)
        · have := hrow _ h; omega)
    have HCBne : Hid (CB < wb.heap.size ∧ CB ≠ mb ∧ CB ≠ e0) := Lib.hid ⟨by omega, by omega, by omega⟩
    have HIB : Hid (∀ b, b = mb ∨ b = e0 ∨ (Value.slice pq hs.length cap).ownBlock = some b → b ∈ CB :: mb :: e0 :: (Value.slice pq hs.length cap).ownBlock.toList) := Lib.hid (fun b h => by
      simp only [List.mem_cons, Option.mem_toList]; exact .inr h)
    gi_wp2_with (fail)
    refine ⟨trivial, ?_⟩
    refine CallsIn.mono (F := Fence.wide.inRound l2) (callsIn_wide.2 (holdF_any wb.heap.size mb e0 k cap H pq hs x _ X hrec hxi (by omega) (by omega) hwX)) ?_
    rintro e W1 ⟨rfl, o1, c1', hs1, hrec1, hpm, hlv1, ho1⟩
    have HC1 := Lib.hid (hlv1.heap hCX (HD.out CB HCBne.out.1 HCBne.out.2.1 HCBne.out.2.2)); have HP1 := Lib.hid (hlv1.heap hPX (HD.out _ (by omega) (by omega) (by omega))); have HA1 := Lib.hid (hlv1.heap hAX (HD.out _ (by omega) (by omega) (by omega)))
    have HLV1 : Hid (Lv (fun b => b ∈ CB :: mb :: e0 :: (Value.slice pq hs.length cap).ownBlock.toList) X W1) := Lib.hid (hlv1.mono (fun b _ h => HIB.out b h)); have HREC1 := Lib.hid hrec1; have HPM := Lib.hid hpm
    have HO1 : Hid (∀ b, (Value.slice (some ⟨o1, 0, none⟩) hs1.length c1').ownBlock = some b → (Value.slice pq hs.length cap).ownBlock = some b ∨ X.heap.size ≤ b) := Lib.hid (fun b hb => by
      simp only [Value.ownBlock, Option.some.injEq] at hb
      subst hb
      exact ho1)
    have HL1 : Hid (hs1.length = hs.length + 1 ∧ hs.length ≤ k) := Lib.hid ⟨by rw [hpm.length_eq]; rfl, hle⟩
    obtain ⟨hb, hhb⟩ : ∃ hb, decide (x ∈ H) = hb := ⟨_, rfl⟩
    rw [hhb]
    have HHB := Lib.hid hhb
    clear hLV hCX hrec hle hrl hpx hrx hob hg hxm hget hxk hPX hAX p0 a0 c0 u0 u1 hrec1 hpm hlv1 ho1 hhb hk hm1 hrow
    cases hb with
    | true =>
      have hin := of_decide_eq_true HHB.out
      have hrec2 := HREC1.out
      rw [if_pos hin] at hrec2
      obtain ⟨hc, hr⟩ := HBM.out.hit k x H hs hs1 HXK.out HRL.out HPM.out hin
      have hfin := HFIN.out W1 _ _ H hs1 hrec2 (by have := HL1.out; omega) hr HLV1.out (by rw [hc]; exact HC1.out) HO1.out
      clear hin hrec2 hc hr
      gi_wp2
      exact hfin
    | false =>
      have hin := of_decide_eq_false HHB.out
      have hrec2 := HREC1.out
      rw [if_neg hin] at hrec2
      obtain ⟨hc, hfit, hbig⟩ := HBM.out.miss k x H hs hs1 HXK.out HRL.out HPM.out hin
      have HCN := Lib.hid hc; have HFIT := Lib.hid hfit; have HBIG := Lib.hid hbig
      obtain ⟨c1, c1f⟩ := blk1 HC1.out
      have hset := lv_set W1 CB 0 (.int .i64 (cnt k + 1))
      have HC2 := Lib.hid (blk1_set (b := .int .i64 (cnt k + 1)) HC1.out)
      have HREC2 := Lib.hid (hrec2.lv hset (fun e => HCBne.out.2.1 (Eq.symm e)) (fun e => HCBne.out.2.2 (Eq.symm e)) (fun b hb e => by
        have e2 : b = CB := e
        have := HCBne.out.1
        have := (World.ownsRow.lt HREC1.out.2.1.2.1 b hb).1
        omega))
      have HP2 := Lib.hid (hset.heap HP1.out (fun e => by omega)); have HA2 := Lib.hid (hset.heap HA1.out (fun e => by omega))
      have HLV2 : Hid (Lv (fun b => b ∈ CB :: mb :: e0 :: (Value.slice pq hs.length cap).ownBlock.toList) X (W1.setCell ⟨CB, 0, none⟩ (.int .i64 (cnt k + 1)))) := Lib.hid (HLV1.out.trans hset (fun _ _ h => h) (fun _ _ h => by simp [h]))
      obtain ⟨W2, hW2⟩ : ∃ W2, W1.setCell ⟨CB, 0, none⟩ (.int .i64 (cnt k + 1)) = W2 := ⟨_, rfl⟩
      rw [hW2] at HREC2 HP2 HA2 HLV2 HC2
      have E3 : Ext W2 W2.drew := (Ext.refl W2).drew
      obtain ⟨q0, -⟩ := blk1 (E3.blk HP2.out); obtain ⟨q1', -⟩ := blk1 (E3.blk HA2.out)
      obtain ⟨hgt, hhgt⟩ : ∃ hb, decide (Z < H.length + 1) = hb := ⟨_, rfl⟩
      have HGT := Lib.hid hhgt
      have hHl : (H ++ [x]).length = H.length + 1 := by rw [List.length_append]; rfl
      have HHL := Lib.hid hHl
      clear hin hrec2 hset hhgt hc hfit hbig hHl
      cases hgt with
      | true =>
        have hgtI : (Z : Int) < ((H.length + 1 : Nat) : Int) := by have := of_decide_eq_true HGT.out; omega
        gi_wp2_with (fail)
        try rw [hW2]
        refine wpIn_round_last (S := (fun W => W.cell? ⟨g0 + 1, 0, none⟩ = some (.iface 66 (.agg #[.map (some mb), .pointer (some ⟨e0, 0, none⟩)])) ∧ W.cell? ⟨g0, 0, none⟩ = some (.int .i64 (Z : Int)))) (by kernel_rfl) (by kernel_rfl) (fun ⟨_, _, h⟩ => h) ⟨q0, q1'⟩ (fun hHeld => ?_)
        refine tkL (some 28) 0 ?vt1a rfl (by kernel_rfl) (by kernel_rfl) (fun _ _ _ h => h) (Or.inl ⟨by rfl, ?hyt1a⟩) (by assumption) ?rt1a
        case hyt1a => intro w hSw; (try dsimp only at hSw); go_simp; first | done | with_reducible rfl
        case' rt1a => try simp only [Act.put, List.setIfInBounds_toArray, List.set_cons_zero, List.set_cons_succ]
        refine tkL (some 30) 2 ?vt2a rfl (by kernel_rfl) (by kernel_rfl) (fun _ _ _ h => h) (Or.inl ⟨by rfl, ?hyt2a⟩) (by assumption) ?rt2a
        case hyt2a => intro w hSw; (try dsimp only at hSw); go_simp; first | done | with_reducible rfl
        case' rt2a => try simp only [Act.put, List.setIfInBounds_toArray, List.set_cons_zero, List.set_cons_succ]
        refine oneL (i := 1) rfl (by kernel_rfl) (fun K9 hK => ?_)
        (go_simp; refine (countF_any wb.heap.size mb e0 (k + 1) c1' (H ++ [x]) _ hs1 _ (HREC2.out.ext (Ext.refl W2).drew)).mono ?_; rw [HHL.out]; rintro e v4 ⟨rfl, hE4⟩; have EX : Ext W2 v4 := (Ext.refl W2).drew.trans hE4; have HEX := Lib.hid EX)
        refine hK.out _ _ ⟨hE4.keep q0, hE4.keep q1'⟩ (fun hHt3 => ?_)
        clear hK K9
        try simp only [Act.put, List.setIfInBounds_toArray, List.set_cons_zero, List.set_cons_succ]
        refine lastL (i := 3) rfl (by kernel_rfl) (by kernel_rfl) (fun K9 hK => ?_)
        go_simp
        refine hK.out _ _ ?_
        clear hK K9
        try simp only [Act.put, List.setIfInBounds_toArray, List.set_cons_zero, List.set_cons_succ]
        obtain ⟨q2, -⟩ := blk1 (HEX.out.blk HP2.out)
        clear hHeld q0 q1' hE4 EX
        gi_wp2_with (fail)
        refine ⟨trivial, ?_⟩
        obtain ⟨hpz, hpo, -, hpp, -, hpmax⟩ := popU_ok (xs := hs1) (n := hs.length) (by have := HL1.out; omega) (by have h := HREC2.out.2.2.1; rw [HL1.out.1] at h; exact h)
        have hz := HBIG.out (of_decide_eq_true HGT.out)
        have hin0 := (hz (itU hs1 0) _ hpp hpmax).1
        refine CallsIn.mono (F := Fence.wide.inRound l2) (callsIn_wide.2 (dropF_any wb.heap.size mb e0 (k + 1) c1' o1 (H ++ [x]) hs1 v4 (HREC2.out.ext HEX.out) (by have := HL1.out; omega) (by have := HL1.out; omega) hin0)) ?_
        rintro e W5 ⟨rfl, ⟨hs2, hrec5, hpm5⟩, hlv5⟩
        have hl5 : hs2.length + 1 = hs1.length := by have h := hpm5.length_eq; simpa using h
        have hHE : (H ++ [x]).erase (itU hs1 0).1 = (H ++ [x]).erase (itU hs1 0).1 := rfl
        have hfin := HFIN.out W5 _ _ _ hs2 hrec5 (by have := HL1.out; omega) (hz _ hs2 hpm5 hpmax).2 ((HLV2.out.trans (HEX.out.lv (D := fun _ => False)) (E := fun b => b ∈ CB :: mb :: e0 :: (Value.slice pq hs.length cap).ownBlock.toList) (fun _ _ h => h) (fun _ _ h => h.elim)).trans hlv5 (fun _ _ h => h) (fun b hb h => by
          rcases h with h | h | h
          · exact HIB.out b (.inl h)
          · exact HIB.out b (.inr (.inl h))
          · rcases HO1.out b (by rw [h]; rfl) with h2 | h2
            · exact HIB.out b (.inr (.inr h2))
            · omega)) (by rw [HCN.out]; exact hlv5.heap (HEX.out.blk HC2.out) (fun h => by
          have h3 := HCBne.out
          rcases h with h | h | h
          · exact h3.2.1 h
          · exact h3.2.2 h
          · have := (World.ownsRow.lt HREC1.out.2.1.2.1 o1 rfl).1; omega)) (fun b hb => HO1.out b (by simpa [Value.ownBlock] using hb))
        gi_wp2
        exact hfin
      | false =>
        have hgtI : ¬ (Z : Int) < ((H.length + 1 : Nat) : Int) := by have := of_decide_eq_false HGT.out; omega
        gi_wp2_with (fail)
        try rw [hW2]
        refine wpIn_round_last (S := (fun W => W.cell? ⟨g0 + 1, 0, none⟩ = some (.iface 66 (.agg #[.map (some mb), .pointer (some ⟨e0, 0, none⟩)])) ∧ W.cell? ⟨g0, 0, none⟩ = some (.int .i64 (Z : Int)))) (by kernel_rfl) (by kernel_rfl) (fun ⟨_, _, h⟩ => h) ⟨q0, q1'⟩ (fun hHeld => ?_)
        refine tkL (some 28) 0 ?vt1b rfl (by kernel_rfl) (by kernel_rfl) (fun _ _ _ h => h) (Or.inl ⟨by rfl, ?hyt1b⟩) (by assumption) ?rt1b
        case hyt1b => intro w hSw; (try dsimp only at hSw); go_simp; first | done | with_reducible rfl
        case' rt1b => try simp only [Act.put, List.setIfInBounds_toArray, List.set_cons_zero, List.set_cons_succ]
        refine tkL (some 30) 2 ?vt2b rfl (by kernel_rfl) (by kernel_rfl) (fun _ _ _ h => h) (Or.inl ⟨by rfl, ?hyt2b⟩) (by assumption) ?rt2b
        case hyt2b => intro w hSw; (try dsimp only at hSw); go_simp; first | done | with_reducible rfl
        case' rt2b => try simp only [Act.put, List.setIfInBounds_toArray, List.set_cons_zero, List.set_cons_succ]
        refine oneL (i := 1) rfl (by kernel_rfl) (fun K9 hK => ?_)
        (go_simp; refine (countF_any wb.heap.size mb e0 (k + 1) c1' (H ++ [x]) _ hs1 _ (HREC2.out.ext (Ext.refl W2).drew)).mono ?_; rw [HHL.out]; rintro e v4 ⟨rfl, hE4⟩; have EX : Ext W2 v4 := (Ext.refl W2).drew.trans hE4; have HEX := Lib.hid EX)
        refine hK.out _ _ ⟨hE4.keep q0, hE4.keep q1'⟩ (fun hHt3 => ?_)
        clear hK K9
        try simp only [Act.put, List.setIfInBounds_toArray, List.set_cons_zero, List.set_cons_succ]
        refine lastL (i := 3) rfl (by kernel_rfl) (by kernel_rfl) (fun K9 hK => ?_)
        go_simp
        refine hK.out _ _ ?_
        clear hK K9
        try simp only [Act.put, List.setIfInBounds_toArray, List.set_cons_zero, List.set_cons_succ]
        obtain ⟨q2, -⟩ := blk1 (HEX.out.blk HP2.out)
        clear hHeld q0 q1' hE4 EX
        have hfin := HFIN.out v4 _ _ _ hs1 (HREC2.out.ext HEX.out) (by have := HL1.out; omega) (HFIT.out (by have := of_decide_eq_false HGT.out; omega)) (HLV2.out.trans (HEX.out.lv (D := fun _ => False)) (fun _ _ h => h) (fun _ _ h => h.elim)) (by rw [HCN.out]; exact HEX.out.blk HC2.out) HO1.out
        gi_wp2
        exact hfin
  case done =>
    rintro E ow X hE6 hEn ⟨pq, cap, H, hs, rfl, hLV, hCX, hrec, hle, hrl⟩ hob hv6 hz hdf
    have hul : (usL xs (nxL xs n)).length = n := by rw [usL_len (by rw [nxL_len]), HN.out]
    rw [hul] at hCX
    have XE := Lib.hid hdf
    have HLV := Lib.hid hLV
    obtain ⟨c0, -⟩ := blk1 hCX
    have HEE : Hid (g0 + 3 ≤ E) := Lib.hid (by omega)
    clear hLV hCX hrec hle hrl hob hv6 hz hdf hE6 hEn
    gi_wp2_with (fail)
    refine leaves_marks2 [E] _ (fun E' h => by simp at h; subst h; exact XE.out) (by simp) (fun W' hW' => ?_)
    refine ⟨.int .i64 (cnt n), by simp [results, Try.results30, go_sem], rfl, ?_⟩
    have h1 := (HEb.out.lv (D := fun _ => False)).trans HLV.out (E := fun k => k = mb ∨ k = e0) (fun _ _ h => h.elim) (fun b hb h => by have := HG0.out; simp at h; omega)
    exact h1.trans hW' (fun _ _ h => h) (fun b hb h => by have := HG0.out; have := HEE.out; simp at h; omega)
  case stop =>
    rintro E cd qq ow X hE6 hEn hq h hob hv6 hz hdf
    exact h.elim
end Go.Proofs.Ytccibfldadflkaa
