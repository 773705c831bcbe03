/- The texts G72 G41 G69 G56, joined. No statement is proved here. -/
import Derived.Test.YtklehkkclojccaaGreatQL27
import Derived.Test.YtklehkkclojccaaGreatQL36
import Derived.Test.YtklehkkclojccaaGreatQL44
import Derived.Test.YtklehkkclojccaaGreatQL41
import Derived.Test.YtklehkkclojccaaGreatQL45
import Derived.Test.YtklehkkclojccaaGreatQL52
import Derived.Test.YtklehkkclojccaaGreatQL46
import Derived.Test.YtklehkkclojccaaGreatQL02
import Derived.Test.YtklehkkclojccaaGreatQL50
import Derived.Test.YtklehkkclojccaaGreatQL30
set_option maxRecDepth 100000
set_option maxHeartbeats 8000000
set_option linter.unusedVariables false
set_option linter.unusedSimpArgs false
namespace Go.Proofs.YtklehkkclojccaaGreat
open Go renaming undef → uZ
open Go.Lib (hid)
section
open Go.RowKit Go.Lib Go.Sort Go.Maps
def upL (n : Nat) : List Int := (List.range n).map (fun (j : Nat) => (j : Int))
theorem jY6e (n : Nat) : upL (n + 1) = upL n ++ [(n : Int)] := by unfold upL; rw [List.range_succ, List.map_append]; rfl
theorem jY2p (n : Nat) : (upL n).length = n := by simp [upL]
theorem jWP {L : Nat} {w : World} {u0 u1 : Value} {t : TypeId} (hL : L = w.heap.size) : ∀ j v, [u0, u1][j]? = some v -> (w.alloc (.cells #[u0, u1] t)).cell? ((⟨L, 0, none⟩ : Addr).add j) = some v := by
 subst hL
 intro q v hq
 match q, hq with
 | 0, hj => simp at hj; subst hj; simp [Addr.add, go_sem]
 | 1, hj => simp at hj; subst hj; simp [Addr.add, go_sem]
theorem jXz {B n size : Nat} {e : TypeId} {w0 : World} {v : Value} {vs : List Value} (ho : w0.ownsRow B e size v n vs) : ∃ p c, v = .slice p n c := by
 rcases ho.2 with ⟨rfl, hn⟩ | ⟨g, cap, cur, rfl, _⟩
 ·exact ⟨none, 0, by rw [hn]⟩
 ·exact ⟨_, _, rfl⟩
theorem jY5I (N : Nat) (hN : N <= 1000) (w : World) :
  Calls Tryz.prog 79 #[.int .i64 (N : Int)] w fun e w' => (∃ p c, e = .returned (.slice p N c) /\ jZ1 w.heap.size w' (.slice p N c) (upL N)) /\ Ext w w' := by
 obtain ⟨i0, hi, hz0, hz1, hz2⟩ := info_parts jZK
 go_enter Tryz.func79, Tryz.ntmps79
 go_wp2
 go_loopw [3, 6] (fun ov iv wr => ∃ (k : Nat) (po : Option Addr) (co : Nat), k <= N /\ iv = .int .i64 k /\ ov = .slice po k co /\ wr.ownsRow w.heap.size 3 1 (.slice po k co) k ((upL k).map (Value.int .i64)) /\ Ext w wr) (fun _ iv _ => N - (intOf iv).toNat)
 case atStart => exact ⟨0, _, _, by omega, rfl, rfl, World.ownsRow_nil _ _ _ _, Ext.refl w⟩
 case round =>
  obtain ⟨k, po, co, hk, rfl, rfl, ho, hE⟩ := hrel; have HO := hid ho; have HE := hid hE; clear ho hE; by_cases hlt : k < N
  ·have HOX := hid (jZ3 HO.o ((Ext.refl wr).alloc (.cells #[.int .i64 (k : Int)] 3)))
   have hsz : w.heap.size <= wr.heap.size := HE.o.size_le; go_wp2_with (at_builtin; refine wpList_append_own_at _ rfl (.tmp 9) (.tmp 11) 39 rfl w.heap.size 3 i0 (.int .i64 0) 1 8 jZG hi hz0 hz1 hz2 rfl (by decide) (.slice po k co) k _ rfl HOX.o ⟨wr.heap.size, 0, none⟩ 1 1 [.int .i64 (k : Int)] rfl rfl ?c1 ?c2 ?c3 ?c4 ?c5 ?_)
   case c1 => exact jZz rfl
   case c2 => intro u hu; simp at hu; subst hu; rfl
   case c3 => unfold maxLen; omega
   case c4 => omega
   case c5 => simp; omega
   intro v' w5 hown' hgrow _ hat
   obtain ⟨po', co', rfl⟩ := jXz hown'; have HRW' : Hid (w5.ownsRow w.heap.size 3 1 (.slice po' (k + 1) co') (k + 1) ((upL (k + 1)).map (Value.int .i64))) := hid (by rw [jY6e, List.map_append]; simpa using hown'); have HE5 := hid ((HE.o.alloc (.cells #[.int .i64 (k : Int)] 3)).grown hgrow (fun b hb => (HOX.o.lt b hb).1)); clear hown' hgrow hat
   go_wp2; go_roundw
   case rel => exact ⟨k + 1, _, _, by omega, by go_num, rfl, HRW'.o, HE5.o⟩
   case measure => simp [intOf]; omega
  ·obtain rfl : k = N := by omega
   go_wp2; go_ret; exact ⟨⟨_, _, rfl, jZ1.mk HO.o (jY2p _)⟩, HE.o⟩
theorem jY0q (p : Option Addr) (n c : Nat) (xs : List Int) (x : Int) (w : World) (hn : xs.length = n) (hs : IntsAt w (.slice p n c) xs) :
  Calls Tryz.prog 130 #[.slice p n c, .int .i64 x] w fun e w' => (∃ k : Int, e = .returned (.int .i64 k) /\ decide (0 <= k) = decide (x ∈ xs)) /\ w' = w := by
 obtain ⟨hm, hc⟩ := hs.cl
 have HN := hid hn; have HC := hid hc
 clear hn hc hs
 obtain ⟨ans, hans⟩ : ∃ a, decide (x ∈ xs) = a := ⟨_, rfl⟩
 rw [hans]
 have HANS := hid hans; clear hans
 go_enter Tryz.func130, Tryz.ntmps130
 go_wp2
 go_loopw [8] (fun i wr => ∃ k : Nat, k <= n /\ i = .int .i64 k /\ (∀ y ∈ xs.take k, y ≠ x) /\ wr = w) (fun i _ => n - (intOf i).toNat)
 case atStart => exact ⟨0, by omega, rfl, by simp, rfl⟩
 case round =>
  obtain ⟨k, hk, rfl, hne, rfl⟩ := hrel; have HNE := hid hne; clear hne; by_cases hlt : k < n
  ·obtain ⟨y, hy⟩ := jZ0 (xs := xs) (k := k) (by rw [HN.o]; exact hlt)
   obtain ⟨b, off, rfl, hcl⟩ := HC.o k y hy; have HY := hid hy; clear hy; by_cases h0 : y = x
   ·have hb : (x == y) = true := by simp [h0]
    have HR : Hid (ans = true) := hid (by rw [<- HANS.o, <- h0]; exact decide_eq_true (List.mem_of_getElem? HY.o)); clear h0; go_wp2; go_ret; exact ⟨⟨(k : Int), rfl, by rw [HR.o]; simp⟩, rfl⟩
   ·have hb : (x == y) = false := by simp; exact fun h => h0 h.symm
    have HNX := hid (jY35 HY.o HNE.o h0); clear h0; go_wp2; go_roundw
    case rel => exact ⟨k + 1, by omega, by go_num, HNX.o, by first | rfl | trivial⟩
    case measure => simp [intOf]; omega
  ·obtain rfl : k = n := by omega
   have HR : Hid (ans = false) := hid (by rw [<- HANS.o]; exact jY2s (by rw [HN.o]; omega) HNE.o); go_wp2; go_ret; exact ⟨⟨-1, rfl, by rw [HR.o]; rfl⟩, rfl⟩
theorem jY2H (p : Option Addr) (n c : Nat) (xs : List Int) (x : Int) (w : World) (hn : xs.length = n) (hs : IntsAt w (.slice p n c) xs) :
  Calls Tryz.prog 76 #[.slice p n c, .int .i64 x] w fun e w' => e = .returned (.bool (decide (x ∈ xs))) /\ w' = w := by
 go_enter Tryz.func76, Tryz.ntmps76
 go_wp2_with (fail)
 refine (jY0q p n c xs x _ hn hs).mono ?_
 rintro e w1 ⟨⟨k, rfl, hk⟩, rfl⟩
 obtain ⟨ans, hans⟩ : ∃ a, decide (x ∈ xs) = a := ⟨_, rfl⟩
 rw [hans] at hk
 have HANS := hid hans; clear hans
 go_wp2
 go_ret
 exact ⟨jZ2 HANS.o.symm, rfl⟩
theorem jY0r (gb : Nat) (q : Option Addr) (n c : Nat) (xs : List Int) (x : Int) (w : World) (hb : w.heap[gb]? = some (.cells #[.slice q n c] 39 (0, 0))) (hn : xs.length = n) (hs : IntsAt w (.slice q n c) xs) :
  Calls Tryz.prog 81 #[.int .i64 x, .pointer (some ⟨gb, 0, none⟩)] w fun e w' => e = .returned (.bool (decide (x ∈ xs))) /\ w' = w := by
 have HN := hid hn; have HS := hid hs
 have c0 := (blk1 hb).1
 obtain ⟨ans, hans⟩ : ∃ a, decide (x ∈ xs) = a := ⟨_, rfl⟩
 rw [hans]
 have HANS := hid hans
 clear hn hs hb hans
 go_enter Tryz.func81, Tryz.ntmps81
 go_wp2_with (fail)
 refine (jY2H q n c xs x _ HN.o HS.o).mono ?_
 rw [HANS.o]
 rintro e w1 ⟨rfl, rfl⟩
 go_wp2
 go_ret
 exact ⟨rfl, rfl⟩
theorem jY2V (B B2 o n c gb m cq : Nat) (q : Option Addr) (us xs : List Int) (w : World) (hn : us.length = n) (hn2 : n <= 1000) (ho : jZ1 B w (.slice (some ⟨o, 0, none⟩) n c) us) (hb : w.heap[gb]? = some (.cells #[.slice q m cq] 39 (0, 0))) (hm : xs.length = m) (hx : jZ1 B2 w (.slice q m cq) xs) (hgb : gb ≠ o) (hxo : ∀ b, (Value.slice q m cq).ownBlock = some b -> b ≠ o) :
  Calls Tryz.prog 78 #[.slice (some ⟨o, 0, none⟩) n c, .func (.func 81) #[] #[.pointer (some ⟨gb, 0, none⟩)]] w fun e w' =>
   (∃ k, e = .returned (.slice (some ⟨o, 0, none⟩) k c) /\ jZ1 B w' (.slice (some ⟨o, 0, none⟩) k c) (us.filter (fun x => !decide (x ∈ xs)))) /\ Lv (fun b => b = o) w w' := by
 have hd : us.toArray.size = n := by simp [hn]
 have ho1 : w.ownsRow B 3 1 (.slice (some ⟨o, 0, none⟩) n c) n (us.map (Value.int .i64)) := by have h := ho; unfold jZ1 at h; rw [hn] at h; exact h
 have hcap : n <= c := by
  rcases ho1.2 with ⟨e, _⟩ | ⟨g', cap, cur, e, _, _, h1, h2, _⟩
  ·cases e
  ·cases e; omega
 have hH := holdsG (Value.int .i64) ho1 hn
 have hone : OneCell (Value.int .i64) := fun x => rfl
 have give : ∀ (W : World) (x : Int), Lv (fun b => b = o) w W -> FnGives Tryz.prog 81 #[.pointer (some ⟨gb, 0, none⟩)] #[.int .i64 x] (.bool (decide (x ∈ xs))) W := fun W x hv => by
  refine Calls.mono (show Calls Tryz.prog 81 _ _ _ from jY0r gb q m cq xs x W (hv.heap hb hgb) hm (jZ1.at (show jZ1 B2 W (.slice q m cq) xs from row_lv hx hv hxo))) ?_; rintro e w' ⟨rfl, rfl⟩; exact ⟨rfl, 0, rfl⟩
 have hcon := Tryz.slices_DeleteFunc (Value.int .i64) hone (fun x => decide (x ∈ xs)) 81 #[.pointer (some ⟨gb, 0, none⟩)] (enters_of Tryz.func81 (by kernel_rfl) rfl) 0 (fun w => Tryz.zeroValue3 w) o 0 c us.toArray w (fun W x hE => give W x (Ext.lv hE)) (fun k os dk x _ => give _ x (jY1s _ dk os)) hH (by omega) (by omega)
 rw [hd] at hcon
 refine Calls.mono (show Calls Tryz.prog 78 _ _ _ from hcon) ?_
 rintro e w' ⟨rfl, r, rfl⟩
 obtain ⟨fs, hfs⟩ : ∃ fs, us.filter (fun x => !decide (x ∈ xs)) = fs := ⟨_, rfl⟩
 have hfl : fs.length <= n := by rw [<- hfs, <- hn]; exact List.length_filter_le _ _
 obtain ⟨ts, hts⟩ : ∃ ts, fs ++ List.replicate (n - fs.length) 0 = ts := ⟨_, rfl⟩
 have htl : ts.length = n := by rw [<- hts]; simp; omega
 have hr := jY3E (m := r) (Value.int .i64) (ts := ts) #[] ho1 htl
 have hlv := jY1s (g := o) (m := r) (w := w) (Value.int .i64) ts.toArray #[]
 simp only [hfs, hts]
 rw [grow_empty] at hr hlv
 refine ⟨⟨fs.length, rfl, ?_⟩, hlv⟩
 have h := jVR hr hfl (vs := [])
 have e : (ts.map (Value.int .i64)).take fs.length = fs.map (Value.int .i64) := by rw [<- List.map_take, <- hts, List.take_left]
 rw [e] at h
 exact jZ1.mk h rfl
theorem infoBs : (Tryz.prog.info? 284).map (fun i => (i.zero, i.size, i.bytes)) = some (some (.agg #[.slice none 0 0, .slice none 0 0]), 2, 48) := by kernel_rfl
theorem underBs : Tryz.prog.underlying 114 = some (.slice 284) := by kernel_rfl
theorem jVg (p : Option Addr) (n c : Nat) (ls : List Lp) (w : World) (hn : ls.length = n) (hs : jZi w (.slice p n c) ls) (hv : ∀ l ∈ ls, (∀ a ∈ l.1, jZ5 a.1 a.2 = true) /\ (∀ a ∈ l.2, jZ5 a.1 a.2 = true) /\ l.1.length <= 2 /\ l.2.length <= 2) (h4 : n <= 4) :
  Calls Tryz.prog 131 #[.slice p n c] w fun e w' => (∃ q d, e = .returned (.slice q n d)) /\ Ext w w' := by
 obtain ⟨i0, hi, hz0, hz1, hz2⟩ := info_parts infoBs
 have HN := hid hn; have HS := hid hs; have HV := hid hv
 clear hn hs hv
 go_enter Tryz.func131, Tryz.ntmps131
 go_wp2
 go_loopw [3, 8] (fun ov iv wr => ∃ (k : Nat) (vs : List Value) (q : Option Addr) (d : Nat), k <= n /\ iv = .int .i64 k /\ ov = .slice q k d /\ wr.ownsRow w.heap.size 284 2 (.slice q k d) k vs /\ Ext w wr) (fun _ iv _ => n - (intOf iv).toNat)
 case atStart => exact ⟨0, [], _, _, by omega, rfl, rfl, World.ownsRow_nil _ _ _ _, Ext.refl w⟩
 case round =>
  obtain ⟨k, vs, q, d, hk, rfl, rfl, ho, hE⟩ := hrel; have HO := hid ho; have HE := hid hE; clear ho hE; by_cases hlt : k < n
  ·obtain ⟨x, hx⟩ := jZ0 (xs := ls) (k := k) (by rw [HN.o]; exact hlt)
   obtain ⟨hv1, hv2, hb1, hb2⟩ := HV.o x (List.mem_of_getElem? hx); obtain ⟨b, off, q1, m1, q2, m2, rfl, e0, e1, hbb, ha1, ha2⟩ := (HS.o.ext HE.o).elem hx; obtain ⟨l1, hl1⟩ : ∃ m, x.1.length = m := ⟨_, rfl⟩; obtain ⟨l2, hl2⟩ : ∃ m, x.2.length = m := ⟨_, rfl⟩; rw [hl1] at e0 ha1 hb1; rw [hl2] at e1 ha2 hb2; have HL1 := hid hl1; have HL2 := hid hl2; have HV1 := hid hv1; have HV2 := hid hv2; have EZ : Ext wr (wr.alloc (.cells #[.slice q1 l1 m1, .slice q2 l2 m2] 240)) := (Ext.refl wr).alloc _; have BZ : Hid ((wr.alloc (.cells #[.slice q1 l1 m1, .slice q2 l2 m2] 240)).heap[wr.heap.size]? = some (.cells #[.slice q1 l1 m1, .slice q2 l2 m2] 240 (0, 0))) := hid (blk_at rfl); have HA1 := hid (ha1.ext EZ); have HA2 := hid (ha2.ext EZ); have HRO := hid (jZ3 HO.o EZ); have HWE := hid (HE.o.trans EZ); have HGE : Hid (∀ r, (Value.slice q k d).ownBlock = some r -> r < wr.heap.size) := hid (fun r hr => (World.ownsRow.lt HO.o r hr).2); clear hx hl1 hl2 hv1 hv2 ha1 ha2; go_upto_region 5 with (fail)
   obtain ⟨gz, hgz⟩ : ∃ g, wr.heap.size = g := ⟨_, rfl⟩; obtain ⟨wz, hwz⟩ : ∃ x, wr.alloc (.cells #[.slice q1 l1 m1, .slice q2 l2 m2] 240) = x := ⟨_, rfl⟩; rw [hgz] at BZ HGE; rw [hwz] at BZ HA1 HA2 HRO HWE
   try rw [hgz]
   try rw [hwz]
   have HWZ : Hid (w.heap.size <= wz.heap.size) := hid HWE.o.size_le; clear hgz hwz EZ e0 e1; have HSO : Hid (∀ W : World, Ext wz W -> W.cell? ⟨gz, 0, none⟩ = some (.slice q1 l1 m1) /\ W.cell? ⟨gz, 1, none⟩ = some (.slice q2 l2 m2)) := hid (fun W h => by obtain ⟨c0, c1, -, -⟩ := blk2 (h.blk BZ.o); exact ⟨c0, c1⟩); have HSO7 : Hid (∀ A W : World, Ext wz A -> A.grownBy W (Value.slice q k d).ownBlock -> W.cell? ⟨gz, 0, none⟩ = some (.slice q1 l1 m1) /\ W.cell? ⟨gz, 1, none⟩ = some (.slice q2 l2 m2)) := hid (fun A W h hg => by obtain ⟨c0, c1, -, -⟩ := blk2 (jZg hg (h.blk BZ.o) (fun e => by have := HGE.o gz e.symm; omega)); exact ⟨c0, c1⟩); refine wp_region_held_drew (S := (fun W => W.cell? ⟨gz, 0, none⟩ = some (.slice q1 l1 m1) /\ W.cell? ⟨gz, 1, none⟩ = some (.slice q2 l2 m2))) (by kernel_rfl) (HSO.o _ (Ext.refl wz).drew) (fun hHeld => ?_); refine tkD9 (some 12) 0 ?vb1 rfl (by kernel_rfl) (by kernel_rfl) (fun _ _ _ h => h) (Or.inl ⟨by rfl, ?hyb1⟩) (by assumption) ?rb1
   case hyb1 => intro w hSw; (try dsimp only at hSw); go_simp; first | done | with_reducible rfl
   case' rb1 => try simp only [Act.put, sA9, sZ9, sS9]
   refine tkD9 (some 13) 1 ?vb2 rfl (by kernel_rfl) (by kernel_rfl) (fun _ _ _ h => h) (Or.inl ⟨by rfl, ?hyb2⟩) (by assumption) ?rb2
   case hyb2 => intro w hSw; (try dsimp only at hSw); go_simp; first | done | with_reducible rfl
   case' rb2 => try simp only [Act.put, sA9, sZ9, sS9]
   refine tkD9 (some 14) 2 ?vb3 rfl (by kernel_rfl) (by kernel_rfl) (fun _ _ _ h => h) (Or.inl ⟨by rfl, ?hyb3⟩) (by assumption) ?rb3
   case hyb3 => intro w hSw; (try dsimp only at hSw); go_simp; first | done | with_reducible rfl
   case' rb3 => try simp only [Act.put, sA9, sZ9, sS9]
   refine tkD9 (some 16) 4 ?vb4 rfl (by kernel_rfl) (by kernel_rfl) (fun _ _ _ h => h) (Or.inl ⟨by rfl, ?hyb4⟩) (by assumption) ?rb4
   case hyb4 => intro w hSw; (try dsimp only at hSw); go_simp; first | done | with_reducible rfl
   case' rb4 => try simp only [Act.put, sA9, sZ9, sS9]
   refine tkD9 (some 17) 5 ?vb5 rfl (by kernel_rfl) (by kernel_rfl) (fun _ _ _ h => h) (Or.inl ⟨by rfl, ?hyb5⟩) (by assumption) ?rb5
   case hyb5 => intro w hSw; (try dsimp only at hSw); go_simp; first | done | with_reducible rfl
   case' rb5 => try simp only [Act.put, sA9, sZ9, sS9]
   refine wpAnyH_ready (rs := [3]) (by kernel_rfl) (by simp) ?_; refine AllReadyH.cons rfl (fun K9 hK => ?_) AllReadyH.nil
   (go_simp; refine (jWn q1 l1 m1 x.1 _ HL1.o (HA1.o.ext (Ext.refl wz).drew) HV1.o (by omega)).mono ?_; rintro e v1 ⟨r1, d1, rfl, -, hE1⟩; have EX1 : Ext wz v1 := (Ext.refl wz).drew.trans hE1)
   refine hK.out _ _ (HSO.o _ EX1) (fun hHb6 => ?_); clear hK K9
   try simp only [Act.put, sA9, sZ9, sS9]
   refine wpAnyH_ready (rs := [6]) (by kernel_rfl) (by simp) ?_; refine AllReadyH.cons rfl (fun K9 hK => ?_) AllReadyH.nil
   (go_simp; refine (jWn q2 l2 m2 x.2 _ HL2.o (HA2.o.ext EX1) HV2.o (by omega)).mono ?_; rintro e v2 ⟨r2, d2, rfl, -, hE2⟩; have EX2 : Ext wz v2 := EX1.trans hE2)
   refine hK.out _ _ (HSO.o _ EX2) (fun hHb7 => ?_); clear hK K9
   try simp only [Act.put, sA9, sZ9, sS9]
   refine tkD9 (some 19) 7 ?vb8 rfl (by kernel_rfl) (by kernel_rfl) (fun _ _ _ h => h) (Or.inl ⟨by rfl, ?hyb8⟩) (by assumption) ?rb8
   case hyb8 => intro w hSw; (try dsimp only at hSw); go_simp; first | done | with_reducible rfl
   case' rb8 => try simp only [Act.put, sA9, sZ9, sS9]
   refine wpAnyH_ready (rs := [8]) (by kernel_rfl) (by simp) ?_; refine AllReadyH.cons rfl (fun K9 hK => ?_) AllReadyH.nil; go_simp; refine hK.out _ _ (HSO.o _ (EX2.trans ((Ext.refl v2).alloc _))) (fun hHb9 => ?_); clear hK K9
   try simp only [Act.put, sA9, sZ9, sS9]
   refine wpAnyH_ready (rs := [9]) (by kernel_rfl) (by simp) ?_; refine AllReadyH.cons rfl (fun K9 hK => ?_) AllReadyH.nil
   (have EA : Ext v2 (v2.alloc (.cells #[.slice r1 l1 d1, .slice r2 l2 d2] 284)) := (Ext.refl v2).alloc _; have EXA := EX2.trans EA; have ho := jZ3 HRO.o EXA; refine jZo _ rfl (.tmp 12) (.tmp 20) 114 rfl w.heap.size 284 i0 (.agg #[.slice none 0 0, .slice none 0 0]) 2 48 underBs hi hz0 hz1 hz2 rfl (by decide) (.slice q k d) k vs rfl ho ⟨v2.heap.size, 0, none⟩ 1 1 [.slice r1 l1 d1, .slice r2 l2 d2] rfl rfl (jWP rfl) (by intro u hu; simp at hu; rcases hu with rfl | rfl <;> rfl) (by unfold maxLen; omega) (by omega) (by have := HWZ.o; have := EXA.size_le; omega) ?_; intro v' w7 hown7 hgr7 hnil7 hat7; obtain ⟨p5, d5, rfl⟩ := jXz hown7)
   refine hK.out _ _ (HSO7.o _ _ EXA hgr7) (fun hHb10 => ?_); clear hK K9
   try simp only [Act.put, sA9, sZ9, sS9]
   refine tkD9 (some 3) 10 ?vb11 rfl (by kernel_rfl) (by kernel_rfl) (fun _ _ _ h => h) (Or.inl ⟨by rfl, ?hyb11⟩) (by assumption) ?rb11
   case hyb11 => intro w hSw; (try dsimp only at hSw); go_simp; first | done | with_reducible rfl
   case' rb11 => try simp only [Act.put, sA9, sZ9, sS9]
   refine wpAnyH_done (by kernel_rfl) ?_ _; have HE7 : Hid (Ext w w7) := hid ((HWE.o.trans EXA).grown hgr7 (fun b hb => (World.ownsRow.lt ho b hb).1)); have HO7 := hid hown7; clear ho hown7 hgr7 hnil7 hat7 hHeld; go_wp2; go_roundw
   case rel => exact ⟨k + 1, _, p5, d5, by omega, by go_num, rfl, HO7.o, HE7.o⟩
   case measure => simp [intOf]; omega
  ·obtain rfl : k = n := by omega
   go_wp2; go_ret; exact ⟨⟨_, _, rfl⟩, HE.o⟩
end
section
open Go.RowKit Go.Maps
theorem jY6g (ars : List Arr) (ps : List Pt) : kEv (evsOf ars ps) = kOf (usesM ars ps) := by rw [jY5E]; rfl
theorem dl_deps {ars : List Arr} {ps : List Pt} (hb : progB ars ps = true) : dpOf (kEv (evsOf ars ps)) (prTo (cntB ars ps) (cntB ars ps)) = depsB ars ps := by
 rw [jVA, jY6g]
 unfold cntB depsB
 rw [if_pos hb, if_pos hb]
theorem evs_cnt {ars : List Arr} {ps : List Pt} (hb : progB ars ps = true) : (evsOf ars ps).length = cntB ars ps := by
 unfold cntB
 rw [if_pos hb]
 simp [evsOf]
end
section
open Go.RowKit Go.Maps
attribute [local go_sem] Oper.semAt_some
def blkOf (v : Value) : Nat := v.ownBlock.getD 0
def DiI (W4 : World) (LB : Nat) (F : List D3 -> List (List Int)) (s : List D3) (own : List Nat) (X : World) : Prop :=
 ∃ row p n c, ∃ al : List EA, own = LB :: row /\ (∀ b ∈ row, W4.heap.size <= b) /\ Lv (fun k => k = LB) W4 X /\ X.heap[LB]? = some (.cells #[.slice p n c] 46 (0, 0)) /\ al.length = n /\ al.map (fun a => a.2) = F s /\
  X.ownsRow W4.heap.size 39 1 (.slice p n c) n (al.map (fun a => a.1)) /\ (∀ b, (Value.slice p n c).ownBlock = some b -> b ∈ row) /\ (∀ a ∈ al, ∃ g cg, a.1 = .slice (some ⟨g, 0, none⟩) a.2.length cg /\ g ∈ row /\ jZ1 W4.heap.size X a.1 a.2) /\ (al.map (fun a => blkOf a.1)).Nodup
theorem DiI.keep {W4 : World} {LB : Nat} {F : List D3 -> List (List Int)} {s s' : List D3} {own : List Nat} {X X' : World} (h : DiI W4 LB F s own X) (hF : F s' = F s) (hv : Lv (fun k => k ∉ own /\ W4.heap.size <= k) X X') : DiI W4 LB F s' own X' := by
 obtain ⟨row, p, n, c, al, rfl, h1, h2, h3, h4, h5, h6, h7, h8, h9⟩ := h
 refine ⟨row, p, n, c, al, rfl, h1, h2.trans hv (fun _ _ h => h) (fun b hb h => by have := h.2; omega), hv.heap h3 (fun h => h.1 (by simp)), h4, by rw [hF]; exact h5, row_lv h6 hv (fun b hb h => h.1 (by simp [h7 b hb])), h7, fun a ha => ?_, h9⟩
 obtain ⟨g, cg, e, hg, hi⟩ := h8 a ha
 refine ⟨g, cg, e, hg, row_lv hi hv (fun b hb h => h.1 ?_)⟩
 rw [e] at hb
 simp only [Value.ownBlock, Option.some.injEq] at hb
 subst hb
 simp [hg]
theorem DiI.stable (W4 : World) (LB : Nat) (F : List D3 -> List (List Int)) : jX2 W4.heap.size (DiI W4 LB F) := fun _ _ _ _ h hv => h.keep rfl hv
theorem jY3f {B B' o g n m c d : Nat} {X : World} {vs : List Value} {xs : List Int} (h : X.ownsRow B 39 1 (.slice (some ⟨o, 0, none⟩) n c) n vs) (hi : jZ1 B' X (.slice (some ⟨g, 0, none⟩) m d) xs) : g ≠ o := by
 rintro rfl
 rcases h.2 with ⟨e, _⟩ | ⟨g1, cap, cur, e, _, hg, _⟩
 ·cases e
 ·cases e
  rcases hi.2 with ⟨e, _⟩ | ⟨g2, cap2, cur2, e, _, hg2, _⟩
  ·cases e
  ·cases e
   rw [hg] at hg2; simp at hg2
theorem DiI.step {W4 X A w7 v4 : World} {LB n c gq ly cq gr dr Bq : Nat} {p : Option Addr} {row : List Nat} {al : List EA} {F : List D3 -> List (List Int)} {s s' : List D3} {x : List Int}
  (hrow : ∀ b ∈ row, W4.heap.size <= b) (hLV : Lv (fun k => k = LB) W4 X) (hLW : LB < W4.heap.size) (hLB : X.heap[LB]? = some (.cells #[.slice p n c] 46 (0, 0))) (han : al.length = n) (has : al.map (fun a => a.2) = F s)
  (hblk : ∀ b, (Value.slice p n c).ownBlock = some b -> b ∈ row) (hrows : ∀ a ∈ al, ∃ g cg, a.1 = .slice (some ⟨g, 0, none⟩) a.2.length cg /\ g ∈ row /\ jZ1 W4.heap.size X a.1 a.2) (hnd : (al.map (fun a => blkOf a.1)).Nodup) (hob : ∀ b ∈ LB :: row, b < X.heap.size)
  (hown : X.ownsRow W4.heap.size 39 1 (.slice p n c) n (al.map (fun a => a.1))) (hF : F s' = F s ++ [x]) (hx : x.length = ly) (EXA : Ext X A) (hA : A = v4.alloc (.cells #[.slice (some ⟨gq, 0, none⟩) ly cq] 39)) (hdo : jZ1 Bq v4 (.slice (some ⟨gq, 0, none⟩) ly cq) x) (hd0 : X.heap.size <= gq) (hd1 : gq < A.heap.size) (hBq : Bq = gq \/ W4.heap.size <= Bq)
  (hgr : A.grownBy w7 (Value.slice p n c).ownBlock) (hown7 : w7.ownsRow W4.heap.size 39 1 (.slice (some ⟨gr, 0, none⟩) (n + 1) dr) (n + 1) (al.map (fun a => a.1) ++ [.slice (some ⟨gq, 0, none⟩) ly cq]))
  (hat : (Value.slice (some ⟨gr, 0, none⟩) (n + 1) dr).ownBlock = (Value.slice p n c).ownBlock \/ (Value.slice (some ⟨gr, 0, none⟩) (n + 1) dr).ownBlock = some A.heap.size) :
  ∃ own', Grew (LB :: row) own' X (w7.setCell ⟨LB, 0, none⟩ (.slice (some ⟨gr, 0, none⟩) (n + 1) dr)) /\ DiI W4 LB F s' own' (w7.setCell ⟨LB, 0, none⟩ (.slice (some ⟨gr, 0, none⟩) (n + 1) dr)) := by
 have hsX := hLV.size
 have hsA := EXA.size_le
 have hs7 := hgr.size
 have hv7 : Lv (fun k => k ∈ row) X w7 := (EXA.lv (D := fun _ => False)).trans (Lv.grown (D := fun k => k ∈ row) hgr (fun r e _ => hblk r e)) (fun _ _ h => h.elim) (fun _ _ h => h)
 have hset := lv_set w7 LB 0 (.slice (some ⟨gr, 0, none⟩) (n + 1) dr)
 have hvS : Lv (fun k => k ∈ LB :: row) X (w7.setCell ⟨LB, 0, none⟩ (.slice (some ⟨gr, 0, none⟩) (n + 1) dr)) := hv7.trans hset (fun b _ h => by simp [h]) (fun b _ h => by simp [h])
 have hLne : some LB ≠ (Value.slice p n c).ownBlock := fun e => by have := hrow LB (hblk LB e.symm); omega
 have hL7 := jZg hgr (EXA.blk hLB) hLne
 have hgrr : gr ∈ row \/ X.heap.size <= gr := by
  rcases hat with h | h
  ·exact .inl (hblk gr h.symm)
  ·simp only [Value.ownBlock, Option.some.injEq] at h; exact .inr (by omega)
 have hgrl := (hown7.lt gr rfl).2
 have hgrb := (hown7.lt gr rfl).1
 have hss : (w7.setCell ⟨LB, 0, none⟩ (.slice (some ⟨gr, 0, none⟩) (n + 1) dr)).heap.size = w7.heap.size := by simp
 have hnx : jZ1 W4.heap.size A (.slice (some ⟨gq, 0, none⟩) ly cq) x := by
  have h1 : jZ1 Bq A (.slice (some ⟨gq, 0, none⟩) ly cq) x := by rw [hA]; exact hdo.ext ((Ext.refl v4).alloc _)
  rcases hBq with e | e
  ·exact jZ1.weak (B := Bq) h1 (by omega)
  ·exact h1.weak e
 have hqn : ∀ b, (Value.slice p n c).ownBlock = some b -> b ≠ gq := fun b hb => by have := hob b (by simp [hblk b hb]); omega
 refine ⟨LB :: (row ++ [gq, gr]), ⟨hvS, fun b hb => ?_⟩, row ++ [gq, gr], some ⟨gr, 0, none⟩, n + 1, dr, al ++ [(.slice (some ⟨gq, 0, none⟩) ly cq, x)], rfl, fun b hb => ?_, ?_, jZq hL7, by simp [han], by rw [List.map_append, has, hF]; rfl, ?_, fun b hb => ?_, fun a ha => ?_, ?_⟩
 ·simp only [List.mem_cons, List.mem_append, List.not_mem_nil, or_false] at hb
  rw [hss]; rcases hb with hb | hb | hb | hb
  ·exact ⟨.inl (by simp [hb]), by have := hob b (by simp [hb]); omega⟩
  ·exact ⟨.inl (by simp [hb]), by have := hob b (by simp [hb]); omega⟩
  ·exact ⟨.inr (by omega), by omega⟩
  ·subst hb
   exact ⟨hgrr.imp (fun h => by simp [h]) id, hgrl⟩
 ·simp only [List.mem_append, List.mem_cons, List.not_mem_nil, or_false] at hb
  rcases hb with hb | hb | hb
  ·exact hrow b hb
  ·omega
  ·omega
 ·exact (hLV.trans hv7 (E := fun k => k = LB) (fun _ _ h => h) (fun b hb h => by have := hrow b h; omega)).trans hset (fun _ _ h => h) (fun _ _ h => h)
 ·rw [List.map_append]
  exact row_lv hown7 hset (fun b hb h => by simp only [Value.ownBlock, Option.some.injEq] at hb; omega)
 ·simp only [Value.ownBlock, Option.some.injEq] at hb; simp [hb]
 ·rcases List.mem_append.1 ha with h | h
  ·obtain ⟨g, cg, e, hg, hi⟩ := hrows a h
   refine ⟨g, cg, e, by simp [hg], ?_⟩
   have hne : ∀ b, (Value.slice p n c).ownBlock = some b -> b ≠ g := fun b hb e2 => by
    subst e2; rcases p with _ | ⟨b', o', s'⟩
    ·simp [Value.ownBlock] at hb
    ·have hf := jZd hown (by simp)
     obtain ⟨gg, dd, e3, -⟩ := hf; rw [e3] at hb hown; simp only [Value.ownBlock, Option.some.injEq] at hb; subst hb; rw [e] at hi; exact jY3f hown hi rfl
   have h7 : jZ1 W4.heap.size w7 a.1 a.2 := row_lv hi ((EXA.lv (D := fun _ => False)).trans (Lv.grown (D := fun k => (Value.slice p n c).ownBlock = some k) hgr (fun r e _ => e)) (E := fun k => (Value.slice p n c).ownBlock = some k) (fun _ _ h => h.elim) (fun _ _ h => h)) (fun b hb hd => by
    rw [e] at hb; simp only [Value.ownBlock, Option.some.injEq] at hb
    exact hne b hd hb.symm)
   exact row_lv h7 hset (fun b hb hd => by
    rw [e] at hb; simp only [Value.ownBlock, Option.some.injEq] at hb
    have := hrow g hg; omega)
  ·simp only [List.mem_singleton] at h
   subst h; refine ⟨gq, cq, by rw [hx], by simp, ?_⟩
   have h7 : jZ1 W4.heap.size w7 (.slice (some ⟨gq, 0, none⟩) ly cq) x := row_lv hnx (Lv.grown (D := fun k => (Value.slice p n c).ownBlock = some k) hgr (fun r e _ => e)) (fun b hb hd => by
    simp only [Value.ownBlock, Option.some.injEq] at hb
    exact hqn b hd hb.symm)
   exact row_lv h7 hset (fun b hb hd => by simp only [Value.ownBlock, Option.some.injEq] at hb; omega)
 ·rw [List.map_append]
  refine List.nodup_append.2 ⟨hnd, by simp, fun a ha b hb => ?_⟩; obtain ⟨y, hy, rfl⟩ := List.mem_map.1 ha; simp [blkOf, Value.ownBlock] at hb; obtain ⟨g, cg, e, hg, -⟩ := hrows y hy; have := hob g (by simp [hg]); rw [e]; simp only [blkOf, Value.ownBlock, Option.getD_some]; omega
def dEv (es : List Ev) (z : Int) (d : D3) : Option (List Int) := match es[d.1]?, es[d.2.1]? with
 | some a, some b => if (a.1.1 : Int) = z /\ (b.1.1 : Int) = z then some (subL b.1.2.2 a.1.2.2) else none
 | _, _ => none
def dsE (es : List Ev) (z : Int) (s : List D3) : List (List Int) := s.filterMap (dEv es z)
theorem jY5G (es : List Ev) (z : Int) (s : List D3) (d : D3) : dsE es z (s ++ [d]) = dsE es z s ++ (dEv es z d).toList := by
 unfold dsE
 rw [List.filterMap_append]
 cases h : dEv es z d <;> simp [h]
theorem dEv_is {es : List Ev} {z : Int} {d : D3} {a b : Ev} (ha : es[d.1]? = some a) (hb : es[d.2.1]? = some b) : dEv es z d = if (a.1.1 : Int) = z /\ (b.1.1 : Int) = z then some (subL b.1.2.2 a.1.2.2) else none := by
 unfold dEv; rw [ha, hb]
theorem dEv_ins (ars : List Arr) (ps : List Pt) (z : Int) (d : D3) : dEv (evsOf ars ps) z d = dAt ps z d := by
 unfold dEv dAt evsOf
 rw [List.getElem?_map, List.getElem?_map]
 cases (insM ps)[d.1]? <;> cases (insM ps)[d.2.1]? <;> rfl
theorem jVt {w W : World} (h : Ext w W) {g : Nat} (hg : w.heap.size <= g) (a b c d e : Value) : Ext w (((((W.setCell ⟨g, 0, none⟩ a).setCell ⟨g, 1, none⟩ b).setCell ⟨g, 2, none⟩ c).setCell ⟨g, 3, none⟩ d).setCell ⟨g, 4, none⟩ e) :=
 ((((h.setAt hg a).setAt hg b).setAt hg c).setAt hg d).setAt hg e
theorem ptsD_of {B o m c : Nat} {w : World} {cs : List EA} (ho : w.ownsRow B 39 1 (.slice (some ⟨o, 0, none⟩) m c) m (cs.map (fun a => a.1))) (hm : cs.length = m) (hr : ∀ a ∈ cs, ∃ g cg, a.1 = .slice (some ⟨g, 0, none⟩) a.2.length cg /\ jZ1 B w a.1 a.2) (hnd : (cs.map (fun a => blkOf a.1)).Nodup) :
  PtsD (o :: cs.map (fun a => blkOf a.1)) B w (.slice (some ⟨o, 0, none⟩) m c) (cs.map (fun a => a.2)) := by
 refine ⟨_, by rw [List.length_map, hm]; exact ho, fun b h => by simp only [Value.ownBlock, Option.some.injEq] at h; simp [h], fun i xs hi => ?_⟩
 rw [List.getElem?_map] at hi
 obtain ⟨a, ha, rfl⟩ := Option.map_eq_some_iff.1 hi
 obtain ⟨g, cg, e, hio⟩ := hr a (List.mem_of_getElem? ha)
 refine ⟨g, cg, by rw [List.getElem?_map, ha, <- e]; rfl, by rw [<- e]; exact hio, ?_, fun j g' n' c' hj hvj => ?_⟩
 ·refine List.mem_cons_of_mem _ (List.mem_map.2 ⟨a, List.mem_of_getElem? ha, ?_⟩)
  rw [e]; rfl
 ·rw [List.getElem?_map] at hvj
  obtain ⟨a', ha', e'⟩ := Option.map_eq_some_iff.1 hvj; intro heq; have h1 : (cs.map (fun a => blkOf a.1))[j]? = some g := by rw [List.getElem?_map, ha', Option.map_some, e', <- heq]; rfl
  have h2 : (cs.map (fun a => blkOf a.1))[i]? = some g := by rw [List.getElem?_map, ha, Option.map_some, e]; rfl
  obtain ⟨k1, e1⟩ := List.getElem?_eq_some_iff.1 h1; obtain ⟨k2, e2⟩ := List.getElem?_eq_some_iff.1 h2; have := (List.pairwise_iff_getElem.1 hnd) j i k1 k2 hj; exact this (e1.trans e2.symm)
theorem jY4m {own : List Nat} {B B' : Nat} {X : World} {v : Value} {xss : List (List Int)} (h : PtsD own B X v xss) (hB : B' <= B) : PtsD own B' X v xss := by
 obtain ⟨vs, ho, hb, he⟩ := h
 exact ⟨vs, jZ7 ho hB, hb, fun i xs hi => by obtain ⟨g, c, h1, h2, h3, h4⟩ := he i xs hi; exact ⟨g, c, h1, h2.weak hB, h3, h4⟩⟩
theorem jY1D {B n c g : Nat} {p : Option Addr} {t t' : TypeId} {X : World} {vs : List Value} {cs : Array Value} (h : X.ownsRow B t 1 (.slice p n c) n vs) (hg : X.heap[g]? = some (.cells cs t' (0, 0))) (hne : t' ≠ t) : some g ≠ (Value.slice p n c).ownBlock := by
 rcases h.2 with ⟨e, _⟩ | ⟨g1, cap, cur, e, _, hg1, _⟩
 ·rw [e]; simp [Value.ownBlock]
 ·rw [e]
  intro h2; simp only [Value.ownBlock, Option.some.injEq] at h2; subst h2; rw [hg] at hg1; simp only [Option.some.injEq, Obj.cells.injEq] at hg1; exact hne hg1.2.1
theorem jY1e (B : Nat) (es : List Ev) (mo : Option Nat) (T : Int) (q1 q2 : Option Addr) (n1 c1 M c2 : Nat) (z : Int) (w : World) (hM : es.length = M) (hM120 : M <= 120) (hev : EvsOwn B w (.slice q2 M c2) es)
  (hes : ∀ a ∈ es, ∀ b ∈ es, a.1.2.2.length <= 4 /\ (∀ x ∈ a.1.2.2, -1000000 <= x /\ x <= 1000000) /\ (∀ x ∈ b.1.2.2, -1000000 <= x /\ x <= 1000000) /\ (a.1.1 = b.1.1 -> b.1.2.2.length = a.1.2.2.length)) :
  Calls Tryz.prog 65 #[.agg #[.map mo, .int .i64 T, .slice q1 n1 c1, .slice q2 M c2], .int .i64 z] w fun e w' => (∃ v' own, e = .returned v' /\ PtsD own w.heap.size w' v' (dstF (dsE es z (dpOf (kEv es) (prTo M M)))) /\ ∀ b ∈ own, w.heap.size <= b /\ b < w'.heap.size) /\ Ext w w' := by
 obtain ⟨iS, hSi, hSz, hS1, hS2⟩ := info_parts infoSS
 have HM := hid hM; have HEV := hid hev; have HES := hid hes
 clear hM hev hes
 refine (callsIn_wide (n := 6)).1 ?_
 refine callsIn_of_wp_marks Tryz.func65 rfl trivial ?_ rfl
 simp only [Tryz.ntmps65, List.size_toArray, List.length_cons, List.length_nil, Nat.reduceAdd, Nat.reduceSub, Array.replicate_succ, Array.replicate_zero, List.push_toArray, List.append_toArray, List.nil_append, List.cons_append]
 have hdd : ∀ j : Nat, (Fence.wide.depth.isSome = true -> 1 <= j) := fun j h => by cases h
 obtain ⟨g0, hg0⟩ : ∃ g0, w.heap.size = g0 := ⟨_, rfl⟩
 gi_wp2_with (fail)
 obtain ⟨W3, hW3⟩ : ∃ W3, (((w.alloc (.cells #[.map mo, .int .i64 T, .slice q1 n1 c1, .slice q2 M c2] 70)).alloc (.cells #[.int .i64 z] 3)).alloc (.cells #[.slice none 0 0] 46)) = W3 := ⟨_, rfl⟩
 have hs3 : W3.heap.size = g0 + 3 := by rw [<- hW3, <- hg0]; simp
 have E3 : Hid (Ext w W3) := hid (by rw [<- hW3]; exact (((Ext.refl w).alloc _).alloc _).alloc _)
 have K0 : Hid (W3.heap[g0]? = some (.cells #[.map mo, .int .i64 T, .slice q1 n1 c1, .slice q2 M c2] 70 (0, 0))) := hid (by rw [<- hW3, <- hg0]; exact jZ4 (jZ4 (blk_at rfl)))
 have K1 : Hid (W3.heap[g0 + 1]? = some (.cells #[.int .i64 z] 3 (0, 0))) := hid (by rw [<- hW3, <- hg0]; exact jZ4 (blk_at (by simp)))
 have K2 : Hid (W3.heap[g0 + 1 + 1]? = some (.cells #[.slice none 0 0] 46 (0, 0))) := hid (by rw [<- hW3, <- hg0]; exact blk_at (by simp))
 have HG0 := hid hg0; have HS3 := hid hs3
 try rw [hW3]
 try rw [hg0]
 clear hW3 hg0 hs3
 refine ⟨trivial, ?_⟩
 refine (callsIn_wide.2 (jVs mo T q1 q2 n1 c1 M c2 W3)).mono ?_
 rintro e w4 ⟨rfl, rfl⟩
 rw [HS3.o]
 obtain ⟨W4, hW4⟩ : ∃ W4, W3.alloc (.cells #[.map mo, .int .i64 T, .slice q1 n1 c1, .slice q2 M c2] 70) = W4 := ⟨_, rfl⟩
 have E34 : Ext W3 W4 := by rw [<- hW4]; exact (Ext.refl W3).alloc _
 have HS4 : Hid (W4.heap.size = g0 + 4) := hid (by rw [<- hW4]; simp [HS3.o])
 have KP : Hid (W4.heap[g0 + 3]? = some (.cells #[.map mo, .int .i64 T, .slice q1 n1 c1, .slice q2 M c2] 70 (0, 0))) := hid (by rw [<- hW4]; exact blk_at HS3.o.symm)
 have J0 := hid (E34.blk K0.o); have J1 := hid (E34.blk K1.o); have J2 := hid (E34.blk K2.o); have E4 := hid (E3.o.trans E34)
 try rw [hW4]
 clear hW4 E34
 gi_wp2_with (fail)
 have hs4 := HS4.o; have hg0 := HG0.o
 refine jZU (w := W4) rfl (hdd _) (gf := 172) (lb := #[.pointer (some ⟨g0 + 3, 0, none⟩)]) rfl trivial (enters_of Tryz.func172 (by kernel_rfl) rfl)
  W4.heap.size (Nat.le_refl _) (jVr W4.heap.size _ _ (g0 + 3) B es mo T q1 q2 n1 c1 M c2 w W4 HM.o hM120 HEV.o KP.o E4.o (Nat.le_refl _))
  (fun b h => by omega) (fun b h => h.elim) (fun x Wa Wb _ _ => trivial) (fun Wa Wb _ _ => trivial) (fun _ => rfl)
  (DiI W4 (g0 + 1 + 1) (dsE es z)) (fun _ _ _ _ => False) (DiI.stable _ _ _) (fun cd s own X X' h _ => h) [g0 + 1 + 1]
  (fun b hb => ⟨by simp at hb; omega, fun h => by simp at hb; omega⟩) ⟨[], none, 0, 0, [], rfl, by simp, Lv.refl _ _, J2.o, rfl, rfl, World.ownsRow_nil _ _ _ _, by simp [Value.ownBlock], by simp, by simp⟩
  (fun (d : D3) (a' : Act) (X : World) => ∃ g, X.heap[g]? = some (.cells #[.int .i64 (d.1 : Int), .int .i64 (d.2.1 : Int), .int .i64 d.2.2] 191 (0, 0)) /\ a' = { tmps := #[.agg #[.map mo, .int .i64 T, .slice q1 n1 c1, .slice q2 M c2], .int .i64 z, .pointer (some ⟨g0, 0, none⟩), .pointer (some ⟨g0 + 1, 0, none⟩), .slice none 0 0, .pointer (some ⟨g0 + 1 + 1, 0, none⟩), .pointer (some ⟨g, 0, none⟩), uZ, uZ, .agg #[.map mo, .int .i64 T, .slice q1 n1 c1, .slice q2 M c2], .func (.func 172) #[] #[.pointer (some ⟨g0 + 3, 0, none⟩)], .agg #[.int .i64 (d.1 : Int), .int .i64 (d.2.1 : Int), .int .i64 d.2.2], uZ, uZ, uZ, uZ, uZ, uZ, uZ, uZ, uZ, uZ, uZ, uZ, uZ, uZ, uZ, uZ, uZ, uZ, uZ, uZ, uZ, uZ, uZ, uZ, uZ, uZ, uZ, uZ, uZ, uZ, uZ, uZ, uZ, uZ, uZ, uZ, uZ, uZ], defers := [] })
  ?ast ?assign ?body ?done ?stop
 case ast =>
  rintro x a' W W' l o ⟨g, h4, h5⟩ ho hv; exact ⟨g, hv.heap h4 (fun e => by subst e; rw [h4] at ho; cases ho), h5⟩
 case assign =>
  intro l2 y X K hy hK; obtain ⟨di, dk, dn⟩ := y; dsimp only [encD]; gi_wp2; exact hK _ _ (Lv.alloc _ X _) ⟨X.heap.size, blk_at rfl, rfl⟩
 case body =>
  rintro l2 pre0 d ow a' X hdi hpx hrx hob ⟨g, hg, rfl⟩; obtain ⟨row, p, n, c, al, rfl, hrow, hLV, hLB, han, has, hown, hblk, hrows, hnd⟩ := id hdi; have hmem : d ∈ dpOf (kEv es) (prTo M M) := List.mem_of_getElem? (jY56 hpx); rw [jVA] at hmem; obtain ⟨-, hij, hjM, -⟩ := jY0P hmem
  have hn2 : n <= 20000 := by
   have h1 := hpx.length_le; have h2 := dl_len (kEv es) M hM120; rw [List.length_append] at h1; have h3 : (dsE es z pre0).length <= pre0.length := List.length_filterMap_le _ _; rw [<- has, List.length_map, han] at h3; omega
  obtain ⟨x, hx⟩ := jZ0 (xs := es) (k := d.1) (by rw [HM.o]; omega); obtain ⟨y, hy⟩ := jZ0 (xs := es) (k := d.2.1) (by rw [HM.o]; omega); obtain ⟨hl4, hbx, hby, hlen⟩ := HES.o x (List.mem_of_getElem? hx) y (List.mem_of_getElem? hy); have hdn := jY5G es z pre0 d; rw [dEv_is hx hy] at hdn; obtain ⟨i, j, dn⟩ := d; dsimp only at hx hy hg hij hjM; have EX : Ext w X := hLV.ext0 E4.o (fun b hb h => by omega); obtain ⟨o, gx, dx, rx, cx, hqo, hol, x0, x1, x2, x3, x4, hpx2, -⟩ := (HEV.o.ext EX).elem hx; obtain ⟨o', gy, dy, ry, cy, ho', -, y0, y1, y2, y3, y4, hpy2, -⟩ := (HEV.o.ext EX).elem hy; obtain rfl : o = o' := by rw [hqo] at ho'; cases ho'; rfl
  obtain ⟨ix, hix⟩ : ∃ i, x.1.1 = i := ⟨_, rfl⟩; obtain ⟨iy, hiy⟩ : ∃ i, y.1.1 = i := ⟨_, rfl⟩; obtain ⟨sx, hsx⟩ : ∃ i, x.1.2.1 = i := ⟨_, rfl⟩; obtain ⟨sy, hsy⟩ : ∃ i, y.1.2.1 = i := ⟨_, rfl⟩; obtain ⟨lx, hlx⟩ : ∃ i, x.1.2.2.length = i := ⟨_, rfl⟩; obtain ⟨ly, hly⟩ : ∃ i, y.1.2.2.length = i := ⟨_, rfl⟩; obtain ⟨kx, hkx⟩ : ∃ i, x.2.1.length = i := ⟨_, rfl⟩; obtain ⟨ky, hky⟩ : ∃ i, y.2.1.length = i := ⟨_, rfl⟩; obtain ⟨wx, hwx⟩ : ∃ i, x.2.2 = i := ⟨_, rfl⟩; obtain ⟨wy, hwy⟩ : ∃ i, y.2.2 = i := ⟨_, rfl⟩; rw [hix] at x0 hlen hdn; rw [hiy] at y0 hlen hdn; rw [hsx] at x1; rw [hsy] at y1; rw [hlx] at x2 hpx2 hlen hl4; rw [hly] at y2 hpy2 hlen; rw [hkx] at x3; rw [hky] at y3; rw [hwx] at x4; rw [hwy] at y4; have HDI := hid hdi; have HROW := hid hrow; have HLVX := hid hLV; have HLB := hid hLB; have HAN := hid han; have HAS := hid has; have HOWN := hid hown; have HBLK := hid hblk; have HROWS := hid hrows; have HND := hid hnd; have HOB : Hid (∀ b ∈ (g0 + 1 + 1) :: row, b < X.heap.size) := hid (fun b hb => (hob b hb).1); have HDN := hid hdn; have HLX := hid hlx; have HLY := hid hly; have HBX := hid hbx; have HBY := hid hby; have HPX := hid hpx2; have HPY := hid hpy2; have HLEN := hid hlen; have KX0 := hid (hLV.heap J0.o (by omega)); have KX1 := hid (hLV.heap J1.o (by omega)); obtain ⟨p0, p1, p2, p3, -⟩ := blk4f KX0.o; rw [hqo] at p3; obtain ⟨z0, z1, z2⟩ := blk3 hg; have HGX := hid hg; have hHeld0 : X.cell? ⟨g0, 3, none⟩ = some (.slice (some ⟨o, 0, none⟩) M c2) /\ X.cell? ⟨g, 0, none⟩ = some (.int .i64 (i : Int)) /\ X.cell? ⟨g, 1, none⟩ = some (.int .i64 (j : Int)) /\ X.cell? ⟨o, i * 5, none⟩ = some (.int .i64 (ix : Int)) /\ X.cell? ⟨o, i * 5 + 1, none⟩ = some (.int .i64 (sx : Int)) /\ X.cell? ⟨o, i * 5 + 2, none⟩ = some (.slice (some ⟨gx, 0, none⟩) lx dx) /\ X.cell? ⟨o, i * 5 + 3, none⟩ = some (.slice rx kx cx) /\ X.cell? ⟨o, i * 5 + 4, none⟩ = some (.int .i64 wx) /\ X.cell? ⟨o, j * 5, none⟩ = some (.int .i64 (iy : Int)) /\ X.cell? ⟨o, j * 5 + 1, none⟩ = some (.int .i64 (sy : Int)) /\ X.cell? ⟨o, j * 5 + 2, none⟩ = some (.slice (some ⟨gy, 0, none⟩) ly dy) /\ X.cell? ⟨o, j * 5 + 3, none⟩ = some (.slice ry ky cy) /\ X.cell? ⟨o, j * 5 + 4, none⟩ = some (.int .i64 wy) := ⟨p3, z0, z1, x0, x1, x2, x3, x4, y0, y1, y2, y3, y4⟩
  have HSO : Hid (∀ W : World, Ext X.drew W -> W.cell? ⟨g0, 3, none⟩ = some (.slice (some ⟨o, 0, none⟩) M c2) /\ W.cell? ⟨g, 0, none⟩ = some (.int .i64 (i : Int)) /\ W.cell? ⟨g, 1, none⟩ = some (.int .i64 (j : Int)) /\ W.cell? ⟨o, i * 5, none⟩ = some (.int .i64 (ix : Int)) /\ W.cell? ⟨o, i * 5 + 1, none⟩ = some (.int .i64 (sx : Int)) /\ W.cell? ⟨o, i * 5 + 2, none⟩ = some (.slice (some ⟨gx, 0, none⟩) lx dx) /\ W.cell? ⟨o, i * 5 + 3, none⟩ = some (.slice rx kx cx) /\ W.cell? ⟨o, i * 5 + 4, none⟩ = some (.int .i64 wx) /\ W.cell? ⟨o, j * 5, none⟩ = some (.int .i64 (iy : Int)) /\ W.cell? ⟨o, j * 5 + 1, none⟩ = some (.int .i64 (sy : Int)) /\ W.cell? ⟨o, j * 5 + 2, none⟩ = some (.slice (some ⟨gy, 0, none⟩) ly dy) /\ W.cell? ⟨o, j * 5 + 3, none⟩ = some (.slice ry ky cy) /\ W.cell? ⟨o, j * 5 + 4, none⟩ = some (.int .i64 wy)) := hid (fun W hW => by
   have hE := (Ext.refl X).drew.trans hW
   exact ⟨hE.keep p3, hE.keep z0, hE.keep z1, hE.keep x0, hE.keep x1, hE.keep x2, hE.keep x3, hE.keep x4, hE.keep y0, hE.keep y1, hE.keep y2, hE.keep y3, hE.keep y4⟩)
  obtain ⟨XD, hXD⟩ : ∃ XD, X.drew = XD := ⟨_, rfl⟩; rw [hXD] at HSO; have HXD : Hid (Ext X XD) := hid (by rw [<- hXD]; exact (Ext.refl X).drew); have HDX := hid hXD; have hiI : (i : Int) < (M : Int) := by omega
  have hjI : (j : Int) < (M : Int) := by omega
  have HHELD : Hid (XD.cell? ⟨g0, 3, none⟩ = some (.slice (some ⟨o, 0, none⟩) M c2) /\ XD.cell? ⟨g, 0, none⟩ = some (.int .i64 (i : Int)) /\ XD.cell? ⟨g, 1, none⟩ = some (.int .i64 (j : Int)) /\ XD.cell? ⟨o, i * 5, none⟩ = some (.int .i64 (ix : Int)) /\ XD.cell? ⟨o, i * 5 + 1, none⟩ = some (.int .i64 (sx : Int)) /\ XD.cell? ⟨o, i * 5 + 2, none⟩ = some (.slice (some ⟨gx, 0, none⟩) lx dx) /\ XD.cell? ⟨o, i * 5 + 3, none⟩ = some (.slice rx kx cx) /\ XD.cell? ⟨o, i * 5 + 4, none⟩ = some (.int .i64 wx) /\ XD.cell? ⟨o, j * 5, none⟩ = some (.int .i64 (iy : Int)) /\ XD.cell? ⟨o, j * 5 + 1, none⟩ = some (.int .i64 (sy : Int)) /\ XD.cell? ⟨o, j * 5 + 2, none⟩ = some (.slice (some ⟨gy, 0, none⟩) ly dy) /\ XD.cell? ⟨o, j * 5 + 3, none⟩ = some (.slice ry ky cy) /\ XD.cell? ⟨o, j * 5 + 4, none⟩ = some (.int .i64 wy)) := hid (HSO.o XD (Ext.refl XD)); clear hdi hrow hLV hLB han has hown hblk hrows hnd hob hpx hrx hmem hx hy hdn hlx hly hbx hby hpx2 hpy2 hlen EX hqo ho' hix hiy hsx hsy hkx hky hwx hwy hg p0 p1 p2 p3 z0 z1 z2 x0 x1 x2 x3 x4 y0 y1 y2 y3 y4 hHeld0 hXD; gi_wp2_with (fail); refine Code.wpIn_mono (Q := fun ex a wz => ex = .normal /\ ∃ (g7 g8 : Nat) (u12 u13 u14 u15 u16 u17 u18 u19 u20 u21 u22 u23 : Value), a = { tmps := #[.agg #[.map mo, .int .i64 T, .slice q1 n1 c1, .slice q2 M c2], .int .i64 z, .pointer (some ⟨g0, 0, none⟩), .pointer (some ⟨g0 + 1, 0, none⟩), .slice none 0 0, .pointer (some ⟨g0 + 1 + 1, 0, none⟩), .pointer (some ⟨g, 0, none⟩), .pointer (some ⟨g7, 0, none⟩), .pointer (some ⟨g8, 0, none⟩), .agg #[.map mo, .int .i64 T, .slice q1 n1 c1, .slice q2 M c2], .func (.func 172) #[] #[.pointer (some ⟨g0 + 3, 0, none⟩)], .agg #[.int .i64 (i : Int), .int .i64 (j : Int), .int .i64 dn], u12, u13, u14, u15, u16, u17, u18, u19, u20, u21, u22, u23, uZ, uZ, uZ, uZ, uZ, uZ, uZ, uZ, uZ, uZ, uZ, uZ, uZ, uZ, uZ, uZ, uZ, uZ, uZ, uZ, uZ, uZ, uZ, uZ, uZ, uZ], defers := [] } /\ Ext X wz /\ wz.heap[g7]? = some (.cells #[.int .i64 (ix : Int), .int .i64 (sx : Int), .slice (some ⟨gx, 0, none⟩) lx dx, .slice rx kx cx, .int .i64 wx] 76 (0, 0)) /\ wz.heap[g8]? = some (.cells #[.int .i64 (iy : Int), .int .i64 (sy : Int), .slice (some ⟨gy, 0, none⟩) ly dy, .slice ry ky cy, .int .i64 wy] 76 (0, 0)) /\ g7 ≠ g8) ?rest ?reg
  case reg =>
   refine jX3 (S := fun W => W.cell? ⟨g0, 3, none⟩ = some (.slice (some ⟨o, 0, none⟩) M c2) /\ W.cell? ⟨g, 0, none⟩ = some (.int .i64 (i : Int)) /\ W.cell? ⟨g, 1, none⟩ = some (.int .i64 (j : Int)) /\ W.cell? ⟨o, i * 5, none⟩ = some (.int .i64 (ix : Int)) /\ W.cell? ⟨o, i * 5 + 1, none⟩ = some (.int .i64 (sx : Int)) /\ W.cell? ⟨o, i * 5 + 2, none⟩ = some (.slice (some ⟨gx, 0, none⟩) lx dx) /\ W.cell? ⟨o, i * 5 + 3, none⟩ = some (.slice rx kx cx) /\ W.cell? ⟨o, i * 5 + 4, none⟩ = some (.int .i64 wx) /\ W.cell? ⟨o, j * 5, none⟩ = some (.int .i64 (iy : Int)) /\ W.cell? ⟨o, j * 5 + 1, none⟩ = some (.int .i64 (sy : Int)) /\ W.cell? ⟨o, j * 5 + 2, none⟩ = some (.slice (some ⟨gy, 0, none⟩) ly dy) /\ W.cell? ⟨o, j * 5 + 3, none⟩ = some (.slice ry ky cy) /\ W.cell? ⟨o, j * 5 + 4, none⟩ = some (.int .i64 wy)) (by kernel_rfl) (by kernel_rfl) (fun ⟨_, _, h⟩ => by cases h.1) (by rw [HDX.o]; exact HHELD.o) (fun hHeld => ?_); rw [HDX.o] at hHeld ⊢; have HE : Hid (Ext XD XD) := hid (Ext.refl XD); refine tkD9 (some 12) 0 ?vd1 rfl (by kernel_rfl) (by kernel_rfl) (fun _ _ _ h => by cases h.1) (Or.inl ⟨by rfl, ?hyd1⟩) (by assumption) ?rd1
   case hyd1 => intro w hSw; (try dsimp only at hSw); go_simp; first | done | with_reducible rfl
   case' rd1 => try simp only [Act.put, sA9, sZ9, sS9]
   refine tkD9 (some 13) 1 ?vd2 rfl (by kernel_rfl) (by kernel_rfl) (fun _ _ _ h => by cases h.1) (Or.inl ⟨by rfl, ?hyd2⟩) (by assumption) ?rd2
   case hyd2 => intro w hSw; (try dsimp only at hSw); go_simp; first | done | with_reducible rfl
   case' rd2 => try simp only [Act.put, sA9, sZ9, sS9]
   refine tkD9 (some 14) 2 ?vd3 rfl (by kernel_rfl) (by kernel_rfl) (fun _ _ _ h => by cases h.1) (Or.inl ⟨by rfl, ?hyd3⟩) (by assumption) ?rd3
   case hyd3 => intro w hSw; (try dsimp only at hSw); go_simp; first | done | with_reducible rfl
   case' rd3 => try simp only [Act.put, sA9, sZ9, sS9]
   refine tkD9 (some 15) 3 ?vd4 rfl (by kernel_rfl) (by kernel_rfl) (fun _ _ _ h => by cases h.1) (Or.inl ⟨by rfl, ?hyd4⟩) (by assumption) ?rd4
   case hyd4 => intro w hSw; (try dsimp only at hSw); go_simp; first | done | with_reducible rfl
   case' rd4 => try simp only [Act.put, sA9, sZ9, sS9]
   refine tkD9 (some 16) 4 ?vd5 rfl (by kernel_rfl) (by kernel_rfl) (fun _ _ _ h => by cases h.1) (Or.inl ⟨by rfl, ?hyd5⟩) (by assumption) ?rd5
   case hyd5 => intro w hSw; (try dsimp only at hSw); go_simp; first | done | with_reducible rfl
   case' rd5 => try simp only [Act.put, sA9, sZ9, sS9]
   refine tkD9 (some 17) 5 ?vd6 rfl (by kernel_rfl) (by kernel_rfl) (fun _ _ _ h => by cases h.1) (Or.inl ⟨by rfl, ?hyd6⟩) (by assumption) ?rd6
   case hyd6 => intro w hSw; (try dsimp only at hSw); go_simp; first | done | with_reducible rfl
   case' rd6 => try simp only [Act.put, sA9, sZ9, sS9]
   refine tkD9 (some 18) 6 ?vd7 rfl (by kernel_rfl) (by kernel_rfl) (fun _ _ _ h => by cases h.1) (Or.inl ⟨by rfl, ?hyd7⟩) (by assumption) ?rd7
   case hyd7 => intro w hSw; (try dsimp only at hSw); go_simp; first | done | with_reducible rfl
   case' rd7 => try simp only [Act.put, sA9, sZ9, sS9]
   refine tkD9 (some 19) 7 ?vd8 rfl (by kernel_rfl) (by kernel_rfl) (fun _ _ _ h => by cases h.1) (Or.inl ⟨by rfl, ?hyd8⟩) (by assumption) ?rd8
   case hyd8 => intro w hSw; (try dsimp only at hSw); go_simp; first | done | with_reducible rfl
   case' rd8 => try simp only [Act.put, sA9, sZ9, sS9]
   refine tkD9 (some 20) 8 ?vd9 rfl (by kernel_rfl) (by kernel_rfl) (fun _ _ _ h => by cases h.1) (Or.inl ⟨by rfl, ?hyd9⟩) (by assumption) ?rd9
   case hyd9 => intro w hSw; (try dsimp only at hSw); go_simp; first | done | with_reducible rfl
   case' rd9 => try simp only [Act.put, sA9, sZ9, sS9]
   refine tkD9 (some 21) 9 ?vd10 rfl (by kernel_rfl) (by kernel_rfl) (fun _ _ _ h => by cases h.1) (Or.inl ⟨by rfl, ?hyd10⟩) (by assumption) ?rd10
   case hyd10 => intro w hSw; (try dsimp only at hSw); go_simp; first | done | with_reducible rfl
   case' rd10 => try simp only [Act.put, sA9, sZ9, sS9]
   refine tkD9 (some 22) 10 ?vd11 rfl (by kernel_rfl) (by kernel_rfl) (fun _ _ _ h => by cases h.1) (Or.inl ⟨by rfl, ?hyd11⟩) (by assumption) ?rd11
   case hyd11 => intro w hSw; (try dsimp only at hSw); go_simp; first | done | with_reducible rfl
   case' rd11 => try simp only [Act.put, sA9, sZ9, sS9]
   refine tkD9 (some 23) 11 ?vd12 rfl (by kernel_rfl) (by kernel_rfl) (fun _ _ _ h => by cases h.1) (Or.inl ⟨by rfl, ?hyd12⟩) (by assumption) ?rd12
   case hyd12 => intro w hSw; (try dsimp only at hSw); go_simp; first | done | with_reducible rfl
   case' rd12 => try simp only [Act.put, sA9, sZ9, sS9]
   refine wpAnyH_ready (rs := [12, 13]) (by kernel_rfl) (by simp) ?_; refine AllReadyH.cons rfl (fun K9 hK => ?_) (AllReadyH.cons rfl (fun K9 hK => ?_) AllReadyH.nil)
   ·skip
    go_simp; have hX : Ext XD (XD.alloc (.cells #[.int .i64 0, .int .i64 0, .slice none 0 0, .slice none 0 0, .int .i64 0] 76)) := (Ext.refl _).alloc _; refine hK.out _ _ (HSO.o _ (HE.o.trans hX)) (fun hH => ?_); obtain ⟨g7, hg7⟩ : ∃ g, XD.heap.size = g := ⟨_, rfl⟩; have H7 : Hid ((XD.alloc (.cells #[.int .i64 0, .int .i64 0, .slice none 0 0, .slice none 0 0, .int .i64 0] 76)).heap[g7]? = some (.cells #[.int .i64 0, .int .i64 0, .slice none 0 0, .slice none 0 0, .int .i64 0] 76 (0, 0))) := hid (blk_at hg7.symm); have HG7 : Hid (XD.heap.size <= g7) := hid (by rw [<- hg7]; exact HE.o.size_le); rw [hg7]; obtain ⟨xa7, hw⟩ : ∃ x, XD.alloc (.cells #[.int .i64 0, .int .i64 0, .slice none 0 0, .slice none 0 0, .int .i64 0] 76) = x := ⟨_, rfl⟩; replace HE := hid (HE.o.trans hX); rw [hw] at HE H7 hH ⊢; clear hw hX hg7 hK K9
    try simp only [Act.put, sA9, sZ9, sS9]
    replace hHeld := hH; clear hH; refine wpAnyH_ready (rs := [13]) (by kernel_rfl) (by simp) ?_; refine AllReadyH.cons rfl (fun K9 hK => ?_) AllReadyH.nil; go_simp; have hX : Ext xa7 (xa7.alloc (.cells #[.int .i64 0, .int .i64 0, .slice none 0 0, .slice none 0 0, .int .i64 0] 76)) := (Ext.refl _).alloc _; refine hK.out _ _ (HSO.o _ (HE.o.trans hX)) (fun hH => ?_); obtain ⟨g8, hg8⟩ : ∃ g, xa7.heap.size = g := ⟨_, rfl⟩; have H8 : Hid ((xa7.alloc (.cells #[.int .i64 0, .int .i64 0, .slice none 0 0, .slice none 0 0, .int .i64 0] 76)).heap[g8]? = some (.cells #[.int .i64 0, .int .i64 0, .slice none 0 0, .slice none 0 0, .int .i64 0] 76 (0, 0))) := hid (blk_at hg8.symm); have HG8 : Hid (XD.heap.size <= g8) := hid (by rw [<- hg8]; exact HE.o.size_le); have HN : Hid (g7 ≠ g8) := hid (by have := lt_of_block H7.o; omega); replace H7 := hid (hX.blk H7.o); rw [hg8]; obtain ⟨xa7a8, hw⟩ : ∃ x, xa7.alloc (.cells #[.int .i64 0, .int .i64 0, .slice none 0 0, .slice none 0 0, .int .i64 0] 76) = x := ⟨_, rfl⟩; replace HE := hid (HE.o.trans hX); rw [hw] at HE H7 H8 hH ⊢; clear hw hX hg8 hK K9
    try simp only [Act.put, sA9, sZ9, sS9]
    replace hHeld := hH; clear hH; refine wpAnyH_ready (rs := [14]) (by kernel_rfl) (by simp) ?_; refine AllReadyH.cons rfl (fun K9 hK => ?_) AllReadyH.nil; obtain ⟨a0, a1, a2, a3, a4, af⟩ := blk5e H7.o; have f0 := af 0; have f1 := af 1; have f2 := af 2; have f3 := af 3; have f4 := af 4; have hl7 := lt_of_block H7.o; clear af; go_simp; have hX := jVt (w := XD) HE.o HG7.o (.int .i64 (ix : Int)) (.int .i64 (sx : Int)) (.slice (some ⟨gx, 0, none⟩) lx dx) (.slice rx kx cx) (.int .i64 wx); refine hK.out _ _ (HSO.o _ hX) (fun hH => ?_); have hb := jWc (a' := .int .i64 (ix : Int)) (b' := .int .i64 (sx : Int)) (c' := .slice (some ⟨gx, 0, none⟩) lx dx) (d' := .slice rx kx cx) (k' := .int .i64 wx) H7.o; have ho := (jV4 xa7a8 g7 (.int .i64 (ix : Int)) (.int .i64 (sx : Int)) (.slice (some ⟨gx, 0, none⟩) lx dx) (.slice rx kx cx) (.int .i64 wx)).heap H8.o (by have := HN.o; omega); generalize (((((xa7a8.setCell ⟨g7, 0, none⟩ (.int .i64 (ix : Int))).setCell ⟨g7, 1, none⟩ (.int .i64 (sx : Int))).setCell ⟨g7, 2, none⟩ (.slice (some ⟨gx, 0, none⟩) lx dx)).setCell ⟨g7, 3, none⟩ (.slice rx kx cx)).setCell ⟨g7, 4, none⟩ (.int .i64 wx)) = xa7a8s7 at *; replace HE := hid hX; replace H7 := hid hb; replace H8 := hid ho; clear ho; clear hX hb a0 a1 a2 a3 a4 f0 f1 f2 f3 f4 hl7 hK K9
    try simp only [Act.put, sA9, sZ9, sS9]
    replace hHeld := hH; clear hH; refine wpAnyH_ready (rs := [15]) (by kernel_rfl) (by simp) ?_; refine AllReadyH.cons rfl (fun K9 hK => ?_) AllReadyH.nil; obtain ⟨a0, a1, a2, a3, a4, af⟩ := blk5e H8.o; have f0 := af 0; have f1 := af 1; have f2 := af 2; have f3 := af 3; have f4 := af 4; have hl8 := lt_of_block H8.o; clear af; go_simp; have hX := jVt (w := XD) HE.o HG8.o (.int .i64 (iy : Int)) (.int .i64 (sy : Int)) (.slice (some ⟨gy, 0, none⟩) ly dy) (.slice ry ky cy) (.int .i64 wy); refine hK.out _ _ (HSO.o _ hX) (fun hH => ?_); have hb := jWc (a' := .int .i64 (iy : Int)) (b' := .int .i64 (sy : Int)) (c' := .slice (some ⟨gy, 0, none⟩) ly dy) (d' := .slice ry ky cy) (k' := .int .i64 wy) H8.o; have ho := (jV4 xa7a8s7 g8 (.int .i64 (iy : Int)) (.int .i64 (sy : Int)) (.slice (some ⟨gy, 0, none⟩) ly dy) (.slice ry ky cy) (.int .i64 wy)).heap H7.o (by have := HN.o; omega); generalize (((((xa7a8s7.setCell ⟨g8, 0, none⟩ (.int .i64 (iy : Int))).setCell ⟨g8, 1, none⟩ (.int .i64 (sy : Int))).setCell ⟨g8, 2, none⟩ (.slice (some ⟨gy, 0, none⟩) ly dy)).setCell ⟨g8, 3, none⟩ (.slice ry ky cy)).setCell ⟨g8, 4, none⟩ (.int .i64 wy)) = xa7a8s7s8 at *; replace HE := hid hX; replace H8 := hid hb; replace H7 := hid ho; clear ho; clear hX hb a0 a1 a2 a3 a4 f0 f1 f2 f3 f4 hl8 hK K9
    try simp only [Act.put, sA9, sZ9, sS9]
    replace hHeld := hH; clear hH; refine wpAnyH_done (by kernel_rfl) ?_ _; exact ⟨rfl, g7, g8, _, _, _, _, _, _, _, _, _, _, _, _, rfl, HXD.o.trans HE.o, H7.o, H8.o, HN.o⟩
   ·skip
    go_simp; have hX : Ext XD (XD.alloc (.cells #[.int .i64 0, .int .i64 0, .slice none 0 0, .slice none 0 0, .int .i64 0] 76)) := (Ext.refl _).alloc _; refine hK.out _ _ (HSO.o _ (HE.o.trans hX)) (fun hH => ?_); obtain ⟨g8, hg8⟩ : ∃ g, XD.heap.size = g := ⟨_, rfl⟩; have H8 : Hid ((XD.alloc (.cells #[.int .i64 0, .int .i64 0, .slice none 0 0, .slice none 0 0, .int .i64 0] 76)).heap[g8]? = some (.cells #[.int .i64 0, .int .i64 0, .slice none 0 0, .slice none 0 0, .int .i64 0] 76 (0, 0))) := hid (blk_at hg8.symm); have HG8 : Hid (XD.heap.size <= g8) := hid (by rw [<- hg8]; exact HE.o.size_le); rw [hg8]; obtain ⟨xa8, hw⟩ : ∃ x, XD.alloc (.cells #[.int .i64 0, .int .i64 0, .slice none 0 0, .slice none 0 0, .int .i64 0] 76) = x := ⟨_, rfl⟩; replace HE := hid (HE.o.trans hX); rw [hw] at HE H8 hH ⊢; clear hw hX hg8 hK K9
    try simp only [Act.put, sA9, sZ9, sS9]
    replace hHeld := hH; clear hH; refine wpAnyH_ready (rs := [12]) (by kernel_rfl) (by simp) ?_; refine AllReadyH.cons rfl (fun K9 hK => ?_) AllReadyH.nil; go_simp; have hX : Ext xa8 (xa8.alloc (.cells #[.int .i64 0, .int .i64 0, .slice none 0 0, .slice none 0 0, .int .i64 0] 76)) := (Ext.refl _).alloc _; refine hK.out _ _ (HSO.o _ (HE.o.trans hX)) (fun hH => ?_); obtain ⟨g7, hg7⟩ : ∃ g, xa8.heap.size = g := ⟨_, rfl⟩; have H7 : Hid ((xa8.alloc (.cells #[.int .i64 0, .int .i64 0, .slice none 0 0, .slice none 0 0, .int .i64 0] 76)).heap[g7]? = some (.cells #[.int .i64 0, .int .i64 0, .slice none 0 0, .slice none 0 0, .int .i64 0] 76 (0, 0))) := hid (blk_at hg7.symm); have HG7 : Hid (XD.heap.size <= g7) := hid (by rw [<- hg7]; exact HE.o.size_le); have HN : Hid (g7 ≠ g8) := hid (by have := lt_of_block H8.o; omega); replace H8 := hid (hX.blk H8.o); rw [hg7]; obtain ⟨xa8a7, hw⟩ : ∃ x, xa8.alloc (.cells #[.int .i64 0, .int .i64 0, .slice none 0 0, .slice none 0 0, .int .i64 0] 76) = x := ⟨_, rfl⟩; replace HE := hid (HE.o.trans hX); rw [hw] at HE H7 H8 hH ⊢; clear hw hX hg7 hK K9
    try simp only [Act.put, sA9, sZ9, sS9]
    replace hHeld := hH; clear hH; refine wpAnyH_ready (rs := [14]) (by kernel_rfl) (by simp) ?_; refine AllReadyH.cons rfl (fun K9 hK => ?_) AllReadyH.nil; obtain ⟨a0, a1, a2, a3, a4, af⟩ := blk5e H7.o; have f0 := af 0; have f1 := af 1; have f2 := af 2; have f3 := af 3; have f4 := af 4; have hl7 := lt_of_block H7.o; clear af; go_simp; have hX := jVt (w := XD) HE.o HG7.o (.int .i64 (ix : Int)) (.int .i64 (sx : Int)) (.slice (some ⟨gx, 0, none⟩) lx dx) (.slice rx kx cx) (.int .i64 wx); refine hK.out _ _ (HSO.o _ hX) (fun hH => ?_); have hb := jWc (a' := .int .i64 (ix : Int)) (b' := .int .i64 (sx : Int)) (c' := .slice (some ⟨gx, 0, none⟩) lx dx) (d' := .slice rx kx cx) (k' := .int .i64 wx) H7.o; have ho := (jV4 xa8a7 g7 (.int .i64 (ix : Int)) (.int .i64 (sx : Int)) (.slice (some ⟨gx, 0, none⟩) lx dx) (.slice rx kx cx) (.int .i64 wx)).heap H8.o (by have := HN.o; omega); generalize (((((xa8a7.setCell ⟨g7, 0, none⟩ (.int .i64 (ix : Int))).setCell ⟨g7, 1, none⟩ (.int .i64 (sx : Int))).setCell ⟨g7, 2, none⟩ (.slice (some ⟨gx, 0, none⟩) lx dx)).setCell ⟨g7, 3, none⟩ (.slice rx kx cx)).setCell ⟨g7, 4, none⟩ (.int .i64 wx)) = xa8a7s7 at *; replace HE := hid hX; replace H7 := hid hb; replace H8 := hid ho; clear ho; clear hX hb a0 a1 a2 a3 a4 f0 f1 f2 f3 f4 hl7 hK K9
    try simp only [Act.put, sA9, sZ9, sS9]
    replace hHeld := hH; clear hH; refine wpAnyH_ready (rs := [15]) (by kernel_rfl) (by simp) ?_; refine AllReadyH.cons rfl (fun K9 hK => ?_) AllReadyH.nil; obtain ⟨a0, a1, a2, a3, a4, af⟩ := blk5e H8.o; have f0 := af 0; have f1 := af 1; have f2 := af 2; have f3 := af 3; have f4 := af 4; have hl8 := lt_of_block H8.o; clear af; go_simp; have hX := jVt (w := XD) HE.o HG8.o (.int .i64 (iy : Int)) (.int .i64 (sy : Int)) (.slice (some ⟨gy, 0, none⟩) ly dy) (.slice ry ky cy) (.int .i64 wy); refine hK.out _ _ (HSO.o _ hX) (fun hH => ?_); have hb := jWc (a' := .int .i64 (iy : Int)) (b' := .int .i64 (sy : Int)) (c' := .slice (some ⟨gy, 0, none⟩) ly dy) (d' := .slice ry ky cy) (k' := .int .i64 wy) H8.o; have ho := (jV4 xa8a7s7 g8 (.int .i64 (iy : Int)) (.int .i64 (sy : Int)) (.slice (some ⟨gy, 0, none⟩) ly dy) (.slice ry ky cy) (.int .i64 wy)).heap H7.o (by have := HN.o; omega); generalize (((((xa8a7s7.setCell ⟨g8, 0, none⟩ (.int .i64 (iy : Int))).setCell ⟨g8, 1, none⟩ (.int .i64 (sy : Int))).setCell ⟨g8, 2, none⟩ (.slice (some ⟨gy, 0, none⟩) ly dy)).setCell ⟨g8, 3, none⟩ (.slice ry ky cy)).setCell ⟨g8, 4, none⟩ (.int .i64 wy)) = xa8a7s7s8 at *; replace HE := hid hX; replace H8 := hid hb; replace H7 := hid ho; clear ho; clear hX hb a0 a1 a2 a3 a4 f0 f1 f2 f3 f4 hl8 hK K9
    try simp only [Act.put, sA9, sZ9, sS9]
    replace hHeld := hH; clear hH; refine wpAnyH_done (by kernel_rfl) ?_ _; exact ⟨rfl, g7, g8, _, _, _, _, _, _, _, _, _, _, _, _, rfl, HXD.o.trans HE.o, H7.o, H8.o, HN.o⟩
  case rest =>
   rintro ex a wz ⟨rfl, g7, g8, u12, u13, u14, u15, u16, u17, u18, u19, u20, u21, u22, u23, rfl, hE, h7, h8, -⟩; have HEz := hid hE; have H7 := hid h7; have H8 := hid h8; have KZ1 := hid (hE.blk KX1.o); obtain ⟨a0, a1, a2, -, -, -⟩ := blk5e h7; obtain ⟨b0, b1, b2, -, -, -⟩ := blk5e h8; obtain ⟨k1, -⟩ := blk1 KZ1.o; clear hE h7 h8; have HLV0 : Hid (Lv (fun k => k ∉ (g0 + 1 + 1) :: row /\ W4.heap.size <= k) X wz) := hid (HEz.o.lv); have HGR0 : Hid (Grew ((g0 + 1 + 1) :: row) ((g0 + 1 + 1) :: row) X wz) := hid ⟨HEz.o.lv, fun b hb => ⟨.inl hb, by have := HOB.o b hb; have := HEz.o.size_le; omega⟩⟩; by_cases hA : (ix : Int) = z
   ·have hA1 : ((ix : Int) == z) = true := by simpa using hA
    by_cases hB : (iy : Int) = z
    ·have hB1 : ((iy : Int) == z) = true := by simpa using hB
     have hleq : ly = lx := HLEN.o (by omega); have HF : Hid (dsE es z (pre0 ++ [(i, j, dn)]) = dsE es z pre0 ++ [subL y.1.2.2 x.1.2.2]) := hid (by rw [HDN.o, if_pos ⟨hA, hB⟩]; rfl); have HSL : Hid ((subL y.1.2.2 x.1.2.2).length = ly) := hid (jY0W HLY.o (by rw [HLX.o, hleq])); have HLXY : Hid (x.1.2.2.length = ly) := hid (by rw [HLX.o, hleq]); clear hA hB; subst hleq; have HRO := hid (jZ3 HOWN.o HEz.o); have KL6 := hid (HEz.o.blk HLB.o); have cPz := (blk1 KL6.o).1; have HPXa := hid (HPX.o.ext HEz.o); have HPYa := hid (HPY.o.ext HEz.o); have HNB : Hid (some (g0 + 1 + 1) ≠ (Value.slice p n c).ownBlock) := hid (fun e => by have := HROW.o _ (HBLK.o _ e.symm); have := HS4.o; omega)
     have HSV : Hid (∀ W : World, (W.heap[g7]? = wz.heap[g7]? /\ W.heap[g8]? = wz.heap[g8]?) -> W.cell? ⟨g8, 2, none⟩ = some (.slice (some ⟨gy, 0, none⟩) ly dy) /\ W.cell? ⟨g7, 2, none⟩ = some (.slice (some ⟨gx, 0, none⟩) ly dx)) := hid (fun W h => by
      obtain ⟨-, -, t2, -⟩ := blk5e (h.1.trans H7.o); obtain ⟨-, -, s2, -⟩ := blk5e (h.2.trans H8.o)
      exact ⟨s2, t2⟩)
     have hl7 := lt_of_block H7.o; have hl8 := lt_of_block H8.o; have H7L := hid hl7; have H8L := hid hl8; have HTY7 : Hid (some g7 ≠ (Value.slice p n c).ownBlock) := hid (jY1D HRO.o H7.o (by decide)); have HTY8 : Hid (some g8 ≠ (Value.slice p n c).ownBlock) := hid (jY1D HRO.o H8.o (by decide)); have HN7 : Hid (g7 ≠ g0 + 1 + 1) := hid (fun e => by have h := H7.o; rw [e, KL6.o] at h; simp at h); have HN8 : Hid (g8 ≠ g0 + 1 + 1) := hid (fun e => by have h := H8.o; rw [e, KL6.o] at h; simp at h); have HSO6 : Hid (∀ W : World, Ext wz W -> W.cell? ⟨g8, 2, none⟩ = some (.slice (some ⟨gy, 0, none⟩) ly dy) /\ W.cell? ⟨g7, 2, none⟩ = some (.slice (some ⟨gx, 0, none⟩) ly dx)) := hid (fun W h => HSV.o W ⟨h.block g7 H7L.o, h.block g8 H8L.o⟩); have HSO7 : Hid (∀ A W : World, Ext wz A -> A.grownBy W (Value.slice p n c).ownBlock -> W.cell? ⟨g8, 2, none⟩ = some (.slice (some ⟨gy, 0, none⟩) ly dy) /\ W.cell? ⟨g7, 2, none⟩ = some (.slice (some ⟨gx, 0, none⟩) ly dx)) := hid (fun A W h hg => HSV.o W ⟨(hg.block g7 (Nat.lt_of_lt_of_le H7L.o h.size) HTY7.o).trans (h.block g7 H7L.o), (hg.block g8 (Nat.lt_of_lt_of_le H8L.o h.size) HTY8.o).trans (h.block g8 H8L.o)⟩)
     have HSO8 : Hid (∀ (A W : World) (v : Value), Ext wz A -> A.grownBy W (Value.slice p n c).ownBlock -> (W.setCell ⟨g0 + 1 + 1, 0, none⟩ v).cell? ⟨g8, 2, none⟩ = some (.slice (some ⟨gy, 0, none⟩) ly dy) /\ (W.setCell ⟨g0 + 1 + 1, 0, none⟩ v).cell? ⟨g7, 2, none⟩ = some (.slice (some ⟨gx, 0, none⟩) ly dx)) := hid (fun A W v h hg => by
      obtain ⟨s2, t2⟩ := HSO7.o A W h hg
      exact ⟨(lv_set W (g0 + 1 + 1) 0 v).cellAt s2 HN8.o, (lv_set W (g0 + 1 + 1) 0 v).cellAt t2 HN7.o⟩)
     have HSTEP : Hid (∀ (v4 A w7 : World) (gq cq gr dr : Nat), Ext wz A -> A = v4.alloc (.cells #[.slice (some ⟨gq, 0, none⟩) ly cq] 39) -> jZ1 wz.drew.heap.size v4 (.slice (some ⟨gq, 0, none⟩) ly cq) (subL y.1.2.2 x.1.2.2) -> wz.drew.heap.size <= gq -> gq < A.heap.size -> A.grownBy w7 (Value.slice p n c).ownBlock ->
       w7.ownsRow W4.heap.size 39 1 (.slice (some ⟨gr, 0, none⟩) (n + 1) dr) (n + 1) (al.map (fun a => a.1) ++ [.slice (some ⟨gq, 0, none⟩) ly cq]) -> ((Value.slice (some ⟨gr, 0, none⟩) (n + 1) dr).ownBlock = (Value.slice p n c).ownBlock \/ (Value.slice (some ⟨gr, 0, none⟩) (n + 1) dr).ownBlock = some A.heap.size) ->
       ∃ own', Grew ((g0 + 1 + 1) :: row) own' X (w7.setCell ⟨g0 + 1 + 1, 0, none⟩ (.slice (some ⟨gr, 0, none⟩) (n + 1) dr)) /\ DiI W4 (g0 + 1 + 1) (dsE es z) (pre0 ++ [(i, j, dn)]) own' (w7.setCell ⟨g0 + 1 + 1, 0, none⟩ (.slice (some ⟨gr, 0, none⟩) (n + 1) dr))) :=
      hid (fun v4 A w7 gq cq gr dr hA1 hA2 hdo hd0 hd1 hgr hown7 hat => by
       have h1 : wz.drew.heap.size = wz.heap.size := rfl; have h2 := HEz.o.size_le; have h3 := HLVX.o.size
       exact DiI.step HROW.o HLVX.o (by have := HS4.o; omega) HLB.o HAN.o HAS.o HBLK.o HROWS.o HND.o HOB.o HOWN.o HF.o HSL.o (HEz.o.trans hA1) hA2 hdo (by omega) hd1 (.inr (by omega)) hgr hown7 hat)
     have hW4z : W4.heap.size <= wz.heap.size := by have := HLVX.o.size; have := HEz.o.size_le; omega
     clear hl7 hl8; gi_wp2_with (fail); refine jX3 (S := (fun W => W.cell? ⟨g8, 2, none⟩ = some (.slice (some ⟨gy, 0, none⟩) ly dy) /\ W.cell? ⟨g7, 2, none⟩ = some (.slice (some ⟨gx, 0, none⟩) ly dx))) (by kernel_rfl) (by kernel_rfl) (fun ⟨_, _, h⟩ => h) (HSO6.o _ (Ext.refl wz).drew) (fun hHeld => ?_); refine tkD9 (some 37) 1 ?vz1 rfl (by kernel_rfl) (by kernel_rfl) (fun _ _ _ h => h) (Or.inl ⟨by rfl, ?hyz1⟩) (by assumption) ?rz1
     case hyz1 => intro w hSw; (try dsimp only at hSw); go_simp; first | done | with_reducible rfl
     case' rz1 => try simp only [Act.put, sA9, sZ9, sS9]
     refine tkD9 (some 38) 2 ?vz2 rfl (by kernel_rfl) (by kernel_rfl) (fun _ _ _ h => h) (Or.inl ⟨by rfl, ?hyz2⟩) (by assumption) ?rz2
     case hyz2 => intro w hSw; (try dsimp only at hSw); go_simp; first | done | with_reducible rfl
     case' rz2 => try simp only [Act.put, sA9, sZ9, sS9]
     refine tkD9 (some 39) 3 ?vz3 rfl (by kernel_rfl) (by kernel_rfl) (fun _ _ _ h => h) (Or.inl ⟨by rfl, ?hyz3⟩) (by assumption) ?rz3
     case hyz3 => intro w hSw; (try dsimp only at hSw); go_simp; first | done | with_reducible rfl
     case' rz3 => try simp only [Act.put, sA9, sZ9, sS9]
     refine tkD9 (some 40) 4 ?vz4 rfl (by kernel_rfl) (by kernel_rfl) (fun _ _ _ h => h) (Or.inl ⟨by rfl, ?hyz4⟩) (by assumption) ?rz4
     case hyz4 => intro w hSw; (try dsimp only at hSw); go_simp; first | done | with_reducible rfl
     case' rz4 => try simp only [Act.put, sA9, sZ9, sS9]
     refine tkD9 (some 41) 5 ?vz5 rfl (by kernel_rfl) (by kernel_rfl) (fun _ _ _ h => h) (Or.inl ⟨by rfl, ?hyz5⟩) (by assumption) ?rz5
     case hyz5 => intro w hSw; (try dsimp only at hSw); go_simp; first | done | with_reducible rfl
     case' rz5 => try simp only [Act.put, sA9, sZ9, sS9]
     refine tkD9 (some 42) 6 ?vz6 rfl (by kernel_rfl) (by kernel_rfl) (fun _ _ _ h => h) (Or.inl ⟨by rfl, ?hyz6⟩) (by assumption) ?rz6
     case hyz6 => intro w hSw; (try dsimp only at hSw); go_simp; first | done | with_reducible rfl
     case' rz6 => try simp only [Act.put, sA9, sZ9, sS9]
     refine wpAnyH_ready (rs := [0, 7]) (by kernel_rfl) (by simp) ?_; refine AllReadyH.cons rfl (fun K9 hK => ?_) (AllReadyH.cons rfl (fun K9 hK => ?_) AllReadyH.nil)
     ·skip
      go_simp; refine hK.out _ _ (HSO6.o _ (Ext.refl wz).drew) (fun hHz7 => ?_); clear hK K9
      try simp only [Act.put, sA9, sZ9, sS9]
      refine wpAnyH_ready (rs := [7]) (by kernel_rfl) (by simp) ?_; refine AllReadyH.cons rfl (fun K9 hK => ?_) AllReadyH.nil
      (go_simp; refine (jWi ⟨gy, 0, none⟩ (some ⟨gx, 0, none⟩) ly dy dx y.1.2.2 x.1.2.2 _ HLY.o HLX.o (by omega) (HPYa.o.at.ext (Ext.refl wz).drew) (HPXa.o.at.ext (Ext.refl wz).drew) HBY.o HBX.o).mono ?_; rintro e v4 ⟨⟨gq, cq, rfl, hdo, hd0, hd1⟩, hE4⟩; have EX : Ext wz v4 := (Ext.refl wz).drew.trans hE4; have KP4 := EX.blk KL6.o; have cP4 := (blk1 KP4).1; have cP5 := (blk1 (((Ext.refl v4).alloc (.cells #[.slice (some ⟨gq, 0, none⟩) ly cq] 39)).blk KP4)).1)
      refine hK.out _ _ (HSO6.o _ EX) (fun hHz8 => ?_); clear hK K9
      try simp only [Act.put, sA9, sZ9, sS9]
      refine wpAnyH_ready (rs := [8]) (by kernel_rfl) (by simp) ?_; refine AllReadyH.cons rfl (fun K9 hK => ?_) AllReadyH.nil; go_simp; refine hK.out _ _ (HSO6.o _ (EX.trans ((Ext.refl v4).alloc _))) (fun hHz9 => ?_); clear hK K9
      try simp only [Act.put, sA9, sZ9, sS9]
      refine wpAnyH_ready (rs := [9]) (by kernel_rfl) (by simp) ?_; refine AllReadyH.cons rfl (fun K9 hK => ?_) AllReadyH.nil
      (have EA : Ext v4 (v4.alloc (.cells #[.slice (some ⟨gq, 0, none⟩) ly cq] 39)) := (Ext.refl v4).alloc _; have EXA := EX.trans EA; have ho := jZ3 HRO.o EXA; have htag := jZx ho; refine jZo _ rfl (.tmp 36) (.tmp 44) 46 rfl W4.heap.size 39 iS (.slice none 0 0) 1 24 jXl hSi hSz hS1 hS2 rfl (by decide) (.slice p n c) n (al.map (fun a => a.1)) rfl ho ⟨v4.heap.size, 0, none⟩ 1 1 [.slice (some ⟨gq, 0, none⟩) ly cq] rfl rfl (jZz rfl) (by intro u hu; simp at hu; subst hu; rfl) (by unfold maxLen; omega) (by omega) (by have := EXA.size_le; omega) ?_; intro v' w7 hown7 hgr7 hnil7 hat7; obtain ⟨gr, dr, rfl, hdr⟩ := jZd hown7 (fun e => by have := (hnil7.1 e).2; omega); have KP7 := jZg hgr7 (EXA.blk KL6.o) HNB.o; have cP7 := (blk1 KP7).1; have fP7 := (blk1 KP7).2)
      refine hK.out _ _ (HSO7.o _ _ EXA hgr7) (fun hHz10 => ?_); clear hK K9
      try simp only [Act.put, sA9, sZ9, sS9]
      refine wpAnyH_ready (rs := [10]) (by kernel_rfl) (by simp) ?_; refine AllReadyH.cons rfl (fun K9 hK => ?_) AllReadyH.nil; go_simp; refine hK.out _ _ (HSO8.o _ _ _ EXA hgr7) (fun hHz11 => ?_); clear hK K9
      try simp only [Act.put, sA9, sZ9, sS9]
      refine wpAnyH_done (by kernel_rfl) ?_ _; have hfin := HSTEP.o _ _ _ _ _ _ _ EXA rfl hdo hd0 (by have := EA.size_le; omega) hgr7 hown7 hat7
      first | exact hfin | (gi_wp2; exact hfin)
     ·skip
      (go_simp; refine (jWi ⟨gy, 0, none⟩ (some ⟨gx, 0, none⟩) ly dy dx y.1.2.2 x.1.2.2 _ HLY.o HLX.o (by omega) (HPYa.o.at.ext (Ext.refl wz).drew) (HPXa.o.at.ext (Ext.refl wz).drew) HBY.o HBX.o).mono ?_; rintro e v4 ⟨⟨gq, cq, rfl, hdo, hd0, hd1⟩, hE4⟩; have EX : Ext wz v4 := (Ext.refl wz).drew.trans hE4; have KP4 := EX.blk KL6.o; have cP4 := (blk1 KP4).1; have cP5 := (blk1 (((Ext.refl v4).alloc (.cells #[.slice (some ⟨gq, 0, none⟩) ly cq] 39)).blk KP4)).1)
      refine hK.out _ _ (HSO6.o _ EX) (fun hHz12 => ?_); clear hK K9
      try simp only [Act.put, sA9, sZ9, sS9]
      refine wpAnyH_ready (rs := [0, 8]) (by kernel_rfl) (by simp) ?_; refine AllReadyH.cons rfl (fun K9 hK => ?_) (AllReadyH.cons rfl (fun K9 hK => ?_) AllReadyH.nil)
      ·skip
       go_simp; refine hK.out _ _ (HSO6.o _ EX) (fun hHz13 => ?_); clear hK K9
       try simp only [Act.put, sA9, sZ9, sS9]
       refine wpAnyH_ready (rs := [8]) (by kernel_rfl) (by simp) ?_; refine AllReadyH.cons rfl (fun K9 hK => ?_) AllReadyH.nil; go_simp; refine hK.out _ _ (HSO6.o _ (EX.trans ((Ext.refl v4).alloc _))) (fun hHz14 => ?_); clear hK K9
       try simp only [Act.put, sA9, sZ9, sS9]
       refine wpAnyH_ready (rs := [9]) (by kernel_rfl) (by simp) ?_; refine AllReadyH.cons rfl (fun K9 hK => ?_) AllReadyH.nil
       (have EA : Ext v4 (v4.alloc (.cells #[.slice (some ⟨gq, 0, none⟩) ly cq] 39)) := (Ext.refl v4).alloc _; have EXA := EX.trans EA; have ho := jZ3 HRO.o EXA; have htag := jZx ho; refine jZo _ rfl (.tmp 36) (.tmp 44) 46 rfl W4.heap.size 39 iS (.slice none 0 0) 1 24 jXl hSi hSz hS1 hS2 rfl (by decide) (.slice p n c) n (al.map (fun a => a.1)) rfl ho ⟨v4.heap.size, 0, none⟩ 1 1 [.slice (some ⟨gq, 0, none⟩) ly cq] rfl rfl (jZz rfl) (by intro u hu; simp at hu; subst hu; rfl) (by unfold maxLen; omega) (by omega) (by have := EXA.size_le; omega) ?_; intro v' w7 hown7 hgr7 hnil7 hat7; obtain ⟨gr, dr, rfl, hdr⟩ := jZd hown7 (fun e => by have := (hnil7.1 e).2; omega); have KP7 := jZg hgr7 (EXA.blk KL6.o) HNB.o; have cP7 := (blk1 KP7).1; have fP7 := (blk1 KP7).2)
       refine hK.out _ _ (HSO7.o _ _ EXA hgr7) (fun hHz15 => ?_); clear hK K9
       try simp only [Act.put, sA9, sZ9, sS9]
       refine wpAnyH_ready (rs := [10]) (by kernel_rfl) (by simp) ?_; refine AllReadyH.cons rfl (fun K9 hK => ?_) AllReadyH.nil; go_simp; refine hK.out _ _ (HSO8.o _ _ _ EXA hgr7) (fun hHz16 => ?_); clear hK K9
       try simp only [Act.put, sA9, sZ9, sS9]
       refine wpAnyH_done (by kernel_rfl) ?_ _; have hfin := HSTEP.o _ _ _ _ _ _ _ EXA rfl hdo hd0 (by have := EA.size_le; omega) hgr7 hown7 hat7
       first | exact hfin | (gi_wp2; exact hfin)
      ·skip
       go_simp; refine hK.out _ _ (HSO6.o _ (EX.trans ((Ext.refl v4).alloc _))) (fun hHz17 => ?_); clear hK K9
       try simp only [Act.put, sA9, sZ9, sS9]
       refine wpAnyH_ready (rs := [0]) (by kernel_rfl) (by simp) ?_; refine AllReadyH.cons rfl (fun K9 hK => ?_) AllReadyH.nil; go_simp; refine hK.out _ _ (HSO6.o _ (EX.trans ((Ext.refl v4).alloc _))) (fun hHz18 => ?_); clear hK K9
       try simp only [Act.put, sA9, sZ9, sS9]
       refine wpAnyH_ready (rs := [9]) (by kernel_rfl) (by simp) ?_; refine AllReadyH.cons rfl (fun K9 hK => ?_) AllReadyH.nil
       (have EA : Ext v4 (v4.alloc (.cells #[.slice (some ⟨gq, 0, none⟩) ly cq] 39)) := (Ext.refl v4).alloc _; have EXA := EX.trans EA; have ho := jZ3 HRO.o EXA; have htag := jZx ho; refine jZo _ rfl (.tmp 36) (.tmp 44) 46 rfl W4.heap.size 39 iS (.slice none 0 0) 1 24 jXl hSi hSz hS1 hS2 rfl (by decide) (.slice p n c) n (al.map (fun a => a.1)) rfl ho ⟨v4.heap.size, 0, none⟩ 1 1 [.slice (some ⟨gq, 0, none⟩) ly cq] rfl rfl (jZz rfl) (by intro u hu; simp at hu; subst hu; rfl) (by unfold maxLen; omega) (by omega) (by have := EXA.size_le; omega) ?_; intro v' w7 hown7 hgr7 hnil7 hat7; obtain ⟨gr, dr, rfl, hdr⟩ := jZd hown7 (fun e => by have := (hnil7.1 e).2; omega); have KP7 := jZg hgr7 (EXA.blk KL6.o) HNB.o; have cP7 := (blk1 KP7).1; have fP7 := (blk1 KP7).2)
       refine hK.out _ _ (HSO7.o _ _ EXA hgr7) (fun hHz19 => ?_); clear hK K9
       try simp only [Act.put, sA9, sZ9, sS9]
       refine wpAnyH_ready (rs := [10]) (by kernel_rfl) (by simp) ?_; refine AllReadyH.cons rfl (fun K9 hK => ?_) AllReadyH.nil; go_simp; refine hK.out _ _ (HSO8.o _ _ _ EXA hgr7) (fun hHz20 => ?_); clear hK K9
       try simp only [Act.put, sA9, sZ9, sS9]
       refine wpAnyH_done (by kernel_rfl) ?_ _; have hfin := HSTEP.o _ _ _ _ _ _ _ EXA rfl hdo hd0 (by have := EA.size_le; omega) hgr7 hown7 hat7
       first | exact hfin | (gi_wp2; exact hfin)
    ·have hB1 : ((iy : Int) == z) = false := by simpa using hB
     have HF : Hid (dsE es z (pre0 ++ [(i, j, dn)]) = dsE es z pre0) := hid (by rw [HDN.o, if_neg (fun h => hB h.2)]; simp); clear hA hB; gi_wp2; exact ⟨_, HGR0.o, HDI.o.keep HF.o HLV0.o⟩
   ·have hA1 : ((ix : Int) == z) = false := by simpa using hA
    have HF : Hid (dsE es z (pre0 ++ [(i, j, dn)]) = dsE es z pre0) := hid (by rw [HDN.o, if_neg (fun h => hA h.1)]; simp); clear hA; gi_wp2; exact ⟨_, HGR0.o, HDI.o.keep HF.o HLV0.o⟩
 case done =>
  rintro E ow X hE6 hEn ⟨row, p, n, c, al, rfl, hrow, hLV, hLB, han, has, hown, hblk, hrows, hnd⟩ hob hv6 hz hdf
  have hn2 : n <= 20000 := by
   have h2 := dl_len (kEv es) M hM120; have h3 : (dsE es z (dpOf (kEv es) (prTo M M))).length <= (dpOf (kEv es) (prTo M M)).length := List.length_filterMap_le _ _; rw [<- has, List.length_map, han] at h3; omega
  have HER : Hid (E ∉ row) := hid (fun h => hEn (by simp [h])); have EX : Hid (Ext w X) := hid (hLV.ext0 E4.o (fun b hb h => by omega)); have HEE : Hid (w.heap.size <= E) := hid (by omega); have HWW : Hid (w.heap.size <= W4.heap.size) := hid (by omega); obtain ⟨y0, -⟩ := blk1 hLB; have hLl := lt_of_block hLB; have HLB := hid hLB; have XE := hid hdf; have HROW := hid hrow; have HAN := hid han; have HAS := hid has; have HOWN := hid hown; have HBLK := hid hblk; have HROWS := hid hrows; have HND := hid hnd; have HLR : Hid (g0 + 1 + 1 ∉ row) := hid (fun h => by have := hrow _ h; omega); have HDS : Hid (dstF (dsE es z (dpOf (kEv es) (prTo M M))) = dstF (al.map (fun a => a.2))) := hid (by rw [has]); rcases Nat.eq_zero_or_pos n with hn0 | hn0
  ·obtain rfl : al = [] := List.eq_nil_of_length_eq_zero (by omega)
   subst hn0; clear hLB hdf hrow han has hown hblk hrows hnd hLV hob hv6 hz hE6 hEn HROWS HND HAN HAS; gi_wp2_with (fail); refine ⟨trivial, ?_⟩; refine (callsIn_wide.2 (jY3S p c X)).mono ?_; rintro e w5 ⟨rfl, rfl⟩; gi_wp2_with (fail); refine ⟨trivial, ?_⟩; refine (callsIn_wide.2 (jY1M p c _)).mono ?_; rintro e w6 ⟨rfl, rfl⟩; gi_wp2_with (fail); refine jZk [E] _ (fun E' h => by simp at h; subst h; exact XE.o) (by simp) (fun W' hW' => ?_); refine ⟨.slice p 0 c, by simp [results, Tryz.results65, go_sem], ⟨_, (Value.slice p 0 c).ownBlock.toList, rfl, ?_, fun b hb => ?_⟩, hW'.ext0 EX.o (fun b hb h => by have := HEE.o; simp at h; omega)⟩
   ·rw [HDS.o]
    exact ⟨[], jZ7 (row_lv HOWN.o hW' (fun b hb h => by simp at h; subst h; exact HER.o (HBLK.o _ hb))) HWW.o, fun b hb => by simp [hb], fun i xs hi => by simp [dstF] at hi⟩
   ·rw [Option.mem_toList] at hb
    have h1 := World.ownsRow.lt HOWN.o b hb; have h2 := hW'.size; have h3 := HWW.o; omega
  ·obtain ⟨o, c', hoe, -⟩ := jZd hown (by intro e; simp at e; omega)
   simp only [Value.slice.injEq] at hoe; obtain ⟨rfl, -, rfl⟩ := hoe; have HOR : Hid (o ∈ row) := hid (hblk o rfl)
   have HRW : Hid (∀ a ∈ al, RwA W4.heap.size o X a) := hid (fun a ha => by
    obtain ⟨g, cg, e, hg, hi⟩ := hrows a ha
    exact ⟨g, cg, e, by rw [e] at hi; exact jY3f hown hi, hi⟩)
   clear hLB hdf hrow han has hown hblk hrows hnd hLV hob hv6 hz hE6 hEn; gi_wp2_with (fail); refine ⟨trivial, ?_⟩; refine (callsIn_wide.2 (jY4G W4.heap.size o n c al X HAN.o hn0 hn2 HOWN.o HRW.o)).mono ?_; rintro e w5 ⟨rfl, al', hperm, hsort, hown5, hv5⟩; have HL5 := hid (hv5.heap HLB.o (fun h => HLR.o (by rw [h]; exact HOR.o))); have han5 : al'.length = n := by rw [hperm.length_eq, HAN.o]
   have hrw5 : ∀ a ∈ al', RwA W4.heap.size o w5 a := fun a ha => (HRW.o a (hperm.mem_iff.1 ha)).lv hv5
   obtain ⟨y5, -⟩ := blk1 HL5.o; have HP5 := hid hperm; have HS5 := hid hsort; have HO5 := hid hown5; have HV5 := hid hv5; have HR5 := hid hrw5; have HN5 := hid han5; clear hperm hsort hown5 hv5 hrw5 han5 y0; gi_wp2_with (fail); refine ⟨trivial, ?_⟩; refine (callsIn_wide.2 (jY1Y W4.heap.size o n c al' w5 HN5.o hn2 HO5.o HR5.o)).mono ?_; rintro e w6 ⟨⟨m, rfl, hm, hown6⟩, hv6⟩; have hcs := cp_dst (fun a : EA => a.2) HP5.o HS5.o; rw [HN5.o] at hcs; have hsub := jY4s (fun a : EA => a.2) al' n; rw [List.take_of_length_le (by rw [HN5.o]; omega)] at hsub; obtain ⟨cs, hcsn⟩ : ∃ cs, cpK (fun a : EA => a.2) al' n = cs := ⟨_, rfl⟩; rw [hcsn] at hm hown6 hcs hsub; have hv06 : Lv (fun b => b = o) X w6 := HV5.o.trans hv6 (fun _ _ h => h) (fun _ _ h => h); have hmem : ∀ a ∈ cs, a ∈ al := fun a ha => HP5.o.mem_iff.1 (hsub.subset ha)
   have hrow6 : ∀ a ∈ cs, ∃ g cg, a.1 = .slice (some ⟨g, 0, none⟩) a.2.length cg /\ jZ1 W4.heap.size w6 a.1 a.2 := fun a ha => by
    obtain ⟨g, cg, e, -, hi⟩ := (HRW.o a (hmem a ha)).lv hv06; exact ⟨g, cg, e, hi⟩
   have hnd6 : (cs.map (fun a => blkOf a.1)).Nodup := (hsub.map _).nodup ((HP5.o.map (fun a : EA => blkOf a.1)).nodup_iff.2 HND.o); have HPT := hid (ptsD_of hown6 hm hrow6 hnd6); have HCS := hid hcs
   have HIN : Hid (∀ b ∈ o :: cs.map (fun a => blkOf a.1), b ∈ row) := hid (fun b hb => by
    rcases List.mem_cons.1 hb with rfl | hb
    ·exact HOR.o
    ·obtain ⟨a, ha, rfl⟩ := List.mem_map.1 hb
     obtain ⟨g, cg, e, hg, -⟩ := HROWS.o a (hmem a ha)
     rw [e]; exact hg)
   have HLT : Hid (∀ b ∈ o :: cs.map (fun a => blkOf a.1), b < w6.heap.size) := hid (fun b hb => by
    rcases List.mem_cons.1 hb with rfl | hb
    ·exact (World.ownsRow.lt hown6 _ rfl).2
    ·obtain ⟨a, ha, rfl⟩ := List.mem_map.1 hb
     obtain ⟨g, cg, e, hi⟩ := hrow6 a ha; rw [e] at hi ⊢
     exact (World.ownsRow.lt hi _ rfl).2)
   have XE6 := hid (hv06.heap XE.o (fun h => HER.o (by rw [h]; exact HOR.o))); have EX6 := hid (hv06.ext0 EX.o (fun b hb h => by have := HROW.o o HOR.o; have := HWW.o; omega)); clear hm hown6 hcs hsub hv6 hv06 hmem hrow6 hnd6 hcsn y5; gi_wp2_with (fail); refine jZk [E] _ (fun E' h => by simp at h; subst h; exact XE6.o) (by simp) (fun W' hW' => ?_); refine ⟨.slice (some ⟨o, 0, none⟩) m c, by simp [results, Tryz.results65, go_sem], ⟨_, o :: cs.map (fun a => blkOf a.1), rfl, ?_, fun b hb => ?_⟩, hW'.ext0 EX6.o (fun b hb h => by have := HEE.o; simp at h; omega)⟩
   ·rw [HDS.o, <- HCS.o]
    exact jY4m (HPT.o.lv (hW'.mono (fun b _ h => fun hb => HER.o (by simp at h; subst h; exact HIN.o _ hb)))) HWW.o
   ·have h1 := HROW.o b (HIN.o b hb)
    have h2 := HLT.o b hb; have h3 := hW'.size; have h4 := HWW.o; omega
 case stop =>
  rintro E cd q ow X hE6 hEn hq h; exact h.elim
end
section
open Go.RowKit Go.Maps
theorem PtsOwn.lvB {B : Nat} {D : Nat -> Prop} {w w' : World} {v : Value} {xss : List (List Int)} (h : PtsOwn B w v xss) (hv : Lv D w w') (hD : ∀ b, B <= b -> b < w.heap.size -> ¬ D b) : PtsOwn B w' v xss := by
 obtain ⟨vs, ho, he⟩ := h
 exact ⟨vs, jXv ho hv hD, fun i xs hi => by obtain ⟨u, h0, h1⟩ := he i xs hi; exact ⟨u, h0, jXv h1 hv hD⟩⟩
end
end Go.Proofs.YtklehkkclojccaaGreat
