/- The texts V8 V9 G39, joined. No statement is proved here. -/
import Derived.Test.YtklehkkclojccaaGreatQL27
import Derived.Test.YtklehkkclojccaaGreatQL15
import Derived.Test.YtklehkkclojccaaGreatQL44
import Derived.Test.YtklehkkclojccaaGreatQL30
set_option maxRecDepth 100000
set_option maxHeartbeats 8000000
set_option linter.unusedVariables false
set_option linter.unusedSimpArgs false
namespace Go.Proofs.YtklehkkclojccaaGreat
open Go.Lib (hid)
section
open Go.RowKit
attribute [local go_sem] Oper.semAt_some
theorem jY47 (M : Nat) (w : World) : Calls Tryz.prog 173 #[.int .i64 (M : Int)] w fun e w' =>
  e = .returned (.func (.func 234) #[] #[.pointer (some ⟨w.heap.size, 0, none⟩)]) /\ w' = w.alloc (.cells #[.int .i64 (M : Int)] 3) := by
 go_enter Tryz.func173, Tryz.ntmps173
 go_wp2
 go_ret
 exact ⟨rfl, rfl⟩
theorem jY3P (base m m' CB M : Nat) (Z : Nat -> Prop) (w : World) (hM : M <= 1000)
  (hB : w.heap[CB]? = some (.cells #[.int .i64 (M : Int)] 3 (0, 0))) (hZ : ∀ b, Z b -> b < w.heap.size) (hZP : Z CB) :
  SeqB base Fence.wide m m' Tryz.prog 234 #[.pointer (some ⟨CB, 0, none⟩)] (fun x : Nat × Nat => #[.int .i64 (x.1 : Int), .int .i64 (x.2 : Int)]) (fun _ _ => True) (fun _ => True) (fun _ => False) Z (prTo M M) w := by
 intro l J Jx own W hvW hJ hJx hown hY h0
 have hBW := hvW.heap hB (fun h => h)
 have hZW : ∀ b, Z b -> b < W.heap.size := fun b h => Nat.lt_of_lt_of_le (hZ b h) hvW.size
 have HB := hid hBW; have HY := hid hY; have HOWN := hid hown; have HZW := hid hZW; have H0 := hid h0; have HJ := hid hJ; have HZP := hid hZP
 obtain ⟨b0, -⟩ := blk1 hBW
 clear hvW hB hBW hZ hZW hY hown h0 hJ hJx hZP
 have hdd : ∀ k : Nat, (Fence.wide.depth.isSome = true -> 1 <= k) := fun k h => by cases h
 show CallsIn Fence.wide m Tryz.prog 234 #[.func (.yield l) #[] #[], .pointer (some ⟨CB, 0, none⟩)] W _
 refine callsIn_of_wp Tryz.func234 rfl trivial ?_ rfl
 simp only [Tryz.ntmps234, List.size_toArray, List.length_cons, List.length_nil, Nat.reduceAdd, Nat.reduceSub, Array.replicate_succ, Array.replicate_zero, List.push_toArray, List.append_toArray, List.nil_append, List.cons_append]
 gi_wp2_with (fail)
 gi_loopw [6] (fun iv wr => ∃ (i : Nat) (own1 : List Nat), i <= M /\ iv = .int .i64 i /\ J (prTo M i) own1 wr /\ Grew own own1 W wr) (fun iv _ => M - (intOf iv).toNat)
 case atStart => exact ⟨0, own, by omega, rfl, H0.o, Grew.refl own W (fun b hb => (HOWN.o b hb).1)⟩
 case round =>
  obtain ⟨i, own1, hi, rfl, hj, hg⟩ := hrel; have HJ1 := hid hj; have HG1 := hid hg; clear hj hg; by_cases hlt : i < M
  ·gi_wp2_with (fail)
   gi_loopw [4] (fun kv wr2 => ∃ (k : Nat) (own2 : List Nat), i + 1 <= k /\ k <= M /\ kv = .int .i64 k /\ J (prTo M i ++ prRow i k) own2 wr2 /\ Grew own own2 W wr2) (fun kv _ => M - (intOf kv).toNat)
   case atStart => exact ⟨i + 1, own1, by omega, by omega, by go_num, by rw [jXF i _ (Nat.le_refl _), List.append_nil]; exact HJ1.o, HG1.o⟩
   case round =>
    obtain ⟨k, own2, hik, hk, rfl, hj, hg⟩ := hrel; have y0 := (blk1 (hg.1.heap HB.o (fun h => (HOWN.o _ h).2 HZP.o))).1; by_cases hlt2 : k < M
    ·obtain ⟨fn, tmps, assign, body, hy, hR⟩ := HY.o _ (i, k) own2 _ hj (jY1E (by omega) hlt2) trivial (jY1L HOWN.o hg HZW.o)
     dsimp only at hy; have HG2 := hid hg; clear hj hg; gi_wp2_with (fail); refine ⟨hdd _, ?_⟩; refine (jZm hR).mono ?_; clear hR; rintro e V2 ⟨own3, hg3, (⟨rfl, hj3⟩ | ⟨rfl, hj3⟩)⟩
     ·have HJ3 := hid hj3; have HG3 := hid (HG2.o.trans hg3)
      clear hg3 hj3 hy y0; gi_wp2; go_roundw
      case rel => exact ⟨k + 1, own3, by omega, by omega, by go_num, by rw [jV6 (by omega), <- List.append_assoc]; exact HJ3.o, HG3.o⟩
      case measure => simp [intOf]; omega
     ·have HJ3 := hid hj3; have HG3 := hid (HG2.o.trans hg3)
      clear hg3 hj3 hy y0; gi_wp2
      first
       | refine bodyPost_ret (results_none rfl _ _ _) rfl ?_
       | refine ⟨_, results_none rfl _ _ _, ?_⟩
      exact ⟨⟨_, rfl⟩, own3, HG3.o.2, HG3.o.1.mono (fun _ _ h => .inl h), trivial, .inr ⟨_, jY1E (by omega) hlt2, HJ3.o⟩⟩
    ·obtain rfl : k = M := by omega
     have HJ2 := hid hj; have HG2 := hid hg; clear hj hg; gi_wp2; go_roundw
     case rel => exact ⟨i + 1, own2, by omega, by go_num, by rw [jY0j]; exact HJ2.o, HG2.o⟩
     case measure => simp [intOf]; omega
  ·obtain rfl : i = M := by omega
   gi_wp2_with (fail); exact bodyPost_end (results_none rfl _ _ _) rfl ⟨⟨_, rfl⟩, own1, HG1.o.2, HG1.o.1.mono (fun _ _ h => .inl h), trivial, .inl HJ1.o⟩
end
section
open Go.RowKit
attribute [local go_sem] Oper.semAt_some
theorem jVs (mo : Option Nat) (T : Int) (q1 q2 : Option Addr) (n1 c1 M c2 : Nat) (w : World) : Calls Tryz.prog 115 #[.agg #[.map mo, .int .i64 T, .slice q1 n1 c1, .slice q2 M c2]] w fun e w' =>
  e = .returned (.func (.func 172) #[] #[.pointer (some ⟨w.heap.size, 0, none⟩)]) /\ w' = w.alloc (.cells #[.map mo, .int .i64 T, .slice q1 n1 c1, .slice q2 M c2] 70) := by
 go_enter Tryz.func115, Tryz.ntmps115
 go_wp2
 go_ret
 exact ⟨rfl, rfl⟩
def encD (d : D3) : Array Value := #[.agg #[.int .i64 (d.1 : Int), .int .i64 (d.2.1 : Int), .int .i64 d.2.2]]
def kEv (es : List Ev) : Nat -> Nat -> Int := kOf (es.map (·.2))
theorem kEv_is {es : List Ev} {i k : Nat} {x y : Ev} (hx : es[i]? = some x) (hy : es[k]? = some y) : kEv es i k = kindB x.2 y.2 := kOf_is (by rw [List.getElem?_map, hx]; rfl) (by rw [List.getElem?_map, hy]; rfl)
theorem jVr (base m m' PB B : Nat) (es : List Ev) (mo : Option Nat) (T : Int) (q1 q2 : Option Addr) (n1 c1 M c2 : Nat) (wz w : World) (hM : es.length = M) (hM120 : M <= 120) (hev : EvsOwn B wz (.slice q2 M c2) es)
  (hB : w.heap[PB]? = some (.cells #[.map mo, .int .i64 T, .slice q1 n1 c1, .slice q2 M c2] 70 (0, 0))) (hE : Ext wz w) (hbw : base <= w.heap.size) :
  SeqB base Fence.wide m m' Tryz.prog 172 #[.pointer (some ⟨PB, 0, none⟩)] encD (fun _ _ => True) (fun _ => True) (fun _ => False) (fun b => b < wz.heap.size \/ b = PB) (dpOf (kEv es) (prTo M M)) w := by
 intro l J Jx own W hvW hJ hJx hown hY h0
 have hEW : Ext wz W := hvW.ext0 hE (fun _ _ h => h)
 have hbW : base <= W.heap.size := Nat.le_trans hbw hvW.size
 obtain ⟨V, hV⟩ : ∃ V, W.alloc (.cells #[.func (.yield l) #[] #[]] 266) = V := ⟨_, rfl⟩
 have hvV : Lv (fun _ => False) W V := by rw [<- hV]; exact Lv.alloc _ W _
 have hsV : V.heap.size = W.heap.size + 1 := by rw [<- hV]; simp
 have HYB : Hid (V.heap[W.heap.size]? = some (.cells #[.func (.yield l) #[] #[]] 266 (0, 0))) := hid (by rw [<- hV]; exact World.alloc_heap_new W _)
 have hEV : Ext wz V := hvV.ext0 hEW (fun _ _ h => h)
 have hBV := hvV.heap (hvW.heap hB (fun h => h)) (fun h => h)
 have hszW := hEW.size_le
 obtain ⟨p0, p1, p2, p3, -⟩ := blk4f hBV
 have HEV := hid hev; have HM := hid hM; have HB := hid hBV; have HEZ := hid hEV
 have HOWN := hid hown; have HY := hid hY; have HJ := hid hJ; have HJX := hid hJx; have HSZ := hid hszW
 have HJV := hid (hJ _ _ _ _ h0 (hvV.mono (fun _ _ h => h.elim))); have HVV := hid hvV; have HSV := hid hsV; have HBW := hid hbW
 clear hB hBV hE hEW hvW hown hY hJ hJx h0 hvV hsV hbw hev hM hEV hszW hbW
 have hdd : ∀ k : Nat, (Fence.wide.depth.isSome = true -> 1 <= k) := fun k h => by cases h
 show CallsIn Fence.wide m Tryz.prog 172 #[.func (.yield l) #[] #[], .pointer (some ⟨PB, 0, none⟩)] W _
 refine callsIn_of_wp_marks Tryz.func172 rfl trivial ?_ rfl
 simp only [Tryz.ntmps172, List.size_toArray, List.length_cons, List.length_nil, Nat.reduceAdd, Nat.reduceSub, Array.replicate_succ, Array.replicate_zero, List.push_toArray, List.append_toArray, List.nil_append, List.cons_append]
 gi_wp2_with (fail)
 refine ⟨trivial, hdd _, ?_⟩
 try rw [hV]
 refine (callsIn_wide.2 (jY47 M _)).mono ?_
 rintro e w6 ⟨rfl, rfl⟩
 clear hV
 obtain ⟨W6, hW6⟩ : ∃ W6, V.alloc (.cells #[.int .i64 (M : Int)] 3) = W6 := ⟨_, rfl⟩
 have hv6 : Lv (fun _ => False) V W6 := by rw [<- hW6]; exact Lv.alloc _ V _
 have hs6 : W6.heap.size = V.heap.size + 1 := by rw [<- hW6]; simp
 have X2 : W6.heap[W.heap.size + 1]? = some (.cells #[.int .i64 (M : Int)] 3 (0, 0)) := by rw [<- hW6, <- HSV.o]; exact World.alloc_heap_new V _
 have hJ6 := HJ.o _ _ _ _ HJV.o (hv6.mono (fun _ _ h => h.elim))
 have hE6 : Ext wz W6 := hv6.ext0 HEZ.o (fun _ _ h => h)
 have hsz6 := HSZ.o; have hsv := HSV.o
 have hZ6 : ∀ b, (b < wz.heap.size \/ b = W.heap.size + 1) -> b < W6.heap.size := fun b h => by omega
 have hO6 : ∀ b ∈ own, b < W6.heap.size /\ ¬ (b < wz.heap.size \/ b = W.heap.size + 1) := fun b hb => by
  obtain ⟨h1, h2⟩ := HOWN.o b hb; exact ⟨by omega, fun h => by omega⟩
 have hb6 : base <= W6.heap.size := by have := HBW.o; omega
 have HX2 := hid X2; have HJ6 := hid hJ6; have HE6 := hid hE6; have HZ6 := hid hZ6; have HO6 := hid hO6; have HV6 := hid hv6; have HS6 := hid hs6
 have X3 := hid (hv6.heap HYB.o (fun h => h))
 have HB6 := hid (hv6.heap HB.o (fun h => h))
 rw [hW6]
 clear hW6 X2 hJ6 hE6 hZ6 hO6 hv6 p0 p1 p2 p3
 gi_wp2_with (fail)
 refine jXm (w := W6) rfl (hdd _) (gf := 234) (lb := #[.pointer (some ⟨W.heap.size + 1, 0, none⟩)]) rfl trivial (enters_of Tryz.func234 (by kernel_rfl) rfl)
  W6.heap.size (Nat.le_refl _) (jY3P W6.heap.size _ _ (W.heap.size + 1) M (fun b => b < wz.heap.size \/ b = W.heap.size + 1) W6 (by omega) HX2.o HZ6.o (.inr rfl))
  HZ6.o (fun b h => h.elim) (fun x W1 W2 _ _ => trivial) (fun W1 W2 _ _ => trivial) (fun _ => rfl)
  (fun s own2 X => J (dpOf (kEv es) s) own2 X /\ Lv (fun k => k ∈ own) W6 X /\ ∀ b ∈ own2, b ∈ own \/ W6.heap.size <= b)
  (fun cd s own2 X => cd = .ret /\ (∃ q, q <+: dpOf (kEv es) (prTo M M) /\ Jx q own2 X) /\ Lv (fun k => k ∈ own) W6 X)
  (by
   rintro s o X X' ⟨a1, a2, a3⟩ hv
   exact ⟨HJ.o _ _ _ _ a1 (hv.mono (fun b _ h => ⟨h.1, by omega⟩)), a2.trans hv (fun _ _ h => h) (fun b hb h => by omega), a3⟩)
  (by
   rintro cd s o X X' ⟨a1, ⟨q, a2, a3⟩, a4⟩ hv
   exact ⟨a1, ⟨q, a2, HJX.o _ _ _ _ a3 (hv.mono (fun b _ h => ⟨h.1, by omega⟩))⟩, a4.trans hv (fun _ _ h => h) (fun b hb h => by omega)⟩)
  own HO6.o ⟨HJ6.o, Lv.refl _ _, fun b hb => .inl hb⟩ ?a1 ?assign ?body ?done ?stop
 case assign =>
  intro l2 y X K hK; gi_wp2; exact hK
 case body =>
  rintro l2 pre0 ⟨i, k⟩ own2 X ⟨hj, hv, hoo⟩ hpx - hob; have hmem : (i, k) ∈ prTo M M := by obtain ⟨t, ht⟩ := hpx; rw [<- ht]; simp
  obtain ⟨hi, hik, hk⟩ := jY62 hmem; dsimp only at hi hik hk; have EX : Ext wz X := hv.ext0 HE6.o (fun b hb h => by have := (HOWN.o b h).2; exact this (.inl hb)); obtain ⟨x, hx⟩ := jZ0 (xs := es) (k := i) (by rw [HM.o]; exact hi); obtain ⟨y, hy⟩ := jZ0 (xs := es) (k := k) (by rw [HM.o]; exact hk); have hev2 := HEV.o.ext EX; obtain ⟨o, gx, dx, r, rk, hqo, hol, x0, x1, x2, x3, x4, -, hrx⟩ := hev2.elem hx; obtain ⟨o', gy, dy, s, sk, ho', -, z0, z1, z2, z3, z4, -, hry⟩ := hev2.elem hy; obtain rfl : o = o' := by rw [hqo] at ho'; cases ho'; rfl
  obtain ⟨kk, hkk⟩ : ∃ z, kEv es i k = z := ⟨_, rfl⟩; have HR : Hid (kindB x.2 y.2 = kk) := hid (by rw [<- hkk, kEv_is hx hy]); have hkb := jY4L x.2 y.2; rw [HR.o] at hkb; obtain ⟨lx, hlx⟩ : ∃ n, x.2.1.length = n := ⟨_, rfl⟩; obtain ⟨ly, hly⟩ : ∃ n, y.2.1.length = n := ⟨_, rfl⟩; rw [hlx] at x3 hrx; rw [hly] at z3 hry; obtain ⟨px, hpx2⟩ : ∃ n, x.1.2.2.length = n := ⟨_, rfl⟩; obtain ⟨py, hpy2⟩ : ∃ n, y.1.2.2.length = n := ⟨_, rfl⟩; rw [hpx2] at x2; rw [hpy2] at z2; obtain ⟨-, -, -, p3, -⟩ := blk4f (hv.heap HB6.o (fun h => (HOWN.o _ h).2 (.inr rfl))); rw [hqo] at p3; have c3 := hid (hv.heap X3.o (fun h => by have := (HOWN.o _ h).1; omega)); have HX := hid hrx; have HYY := hid hry; have HLX := hid hlx; have HLY := hid hly; have HKK := hid hkk; have HJ1 := hid hj; have HV1 := hid hv; have HOO := hid hoo; have HPX := hid hpx; have HOB := hid hob; have HEX := hid EX; have hiI : (i : Int) < (M : Int) := by omega
  have hkI : (k : Int) < (M : Int) := by omega
  clear hx hy hrx hry hlx hly ho' hqo hev2 hj hv hoo hpx hob hmem hkk EX hpx2 hpy2; gi_wp2_with (fail); refine jX3 (S := (fun W => W.cell? ⟨PB, 3, none⟩ = some (.slice (some ⟨o, 0, none⟩) M c2) /\ W.cell? ⟨o, i * 5, none⟩ = some (.int .i64 (x.1.1 : Int)) /\ W.cell? ⟨o, i * 5 + 1, none⟩ = some (.int .i64 (x.1.2.1 : Int)) /\ W.cell? ⟨o, i * 5 + 2, none⟩ = some (.slice (some ⟨gx, 0, none⟩) px dx) /\ W.cell? ⟨o, i * 5 + 3, none⟩ = some (.slice r lx rk) /\ W.cell? ⟨o, i * 5 + 4, none⟩ = some (.int .i64 x.2.2) /\ W.cell? ⟨o, k * 5, none⟩ = some (.int .i64 (y.1.1 : Int)) /\ W.cell? ⟨o, k * 5 + 1, none⟩ = some (.int .i64 (y.1.2.1 : Int)) /\ W.cell? ⟨o, k * 5 + 2, none⟩ = some (.slice (some ⟨gy, 0, none⟩) py dy) /\ W.cell? ⟨o, k * 5 + 3, none⟩ = some (.slice s ly sk) /\ W.cell? ⟨o, k * 5 + 4, none⟩ = some (.int .i64 y.2.2))) (by kernel_rfl) (by kernel_rfl) (fun ⟨_, _, h⟩ => h) ⟨p3, x0, x1, x2, x3, x4, z0, z1, z2, z3, z4⟩ (fun hHeld => ?_); refine tkD9 (some 12) 0 ?ve0 rfl (by kernel_rfl) (by kernel_rfl) (fun _ _ _ h => h) (Or.inl ⟨by rfl, ?hye0⟩) (by assumption) ?re0
  case hye0 => intro w hSw; (try dsimp only at hSw); go_simp; first | done | with_reducible rfl
  case' re0 => try simp only [Act.put, sA9, sZ9, sS9]
  refine tkD9 (some 13) 1 ?ve1 rfl (by kernel_rfl) (by kernel_rfl) (fun _ _ _ h => h) (Or.inl ⟨by rfl, ?hye1⟩) (by assumption) ?re1
  case hye1 => intro w hSw; (try dsimp only at hSw); go_simp; first | done | with_reducible rfl
  case' re1 => try simp only [Act.put, sA9, sZ9, sS9]
  refine tkD9 (some 14) 2 ?ve2 rfl (by kernel_rfl) (by kernel_rfl) (fun _ _ _ h => h) (Or.inl ⟨by rfl, ?hye2⟩) (by assumption) ?re2
  case hye2 => intro w hSw; (try dsimp only at hSw); go_simp; first | done | with_reducible rfl
  case' re2 => try simp only [Act.put, sA9, sZ9, sS9]
  refine tkD9 (some 15) 3 ?ve3 rfl (by kernel_rfl) (by kernel_rfl) (fun _ _ _ h => h) (Or.inl ⟨by rfl, ?hye3⟩) (by assumption) ?re3
  case hye3 => intro w hSw; (try dsimp only at hSw); go_simp; first | done | with_reducible rfl
  case' re3 => try simp only [Act.put, sA9, sZ9, sS9]
  refine tkD9 (some 16) 4 ?ve4 rfl (by kernel_rfl) (by kernel_rfl) (fun _ _ _ h => h) (Or.inl ⟨by rfl, ?hye4⟩) (by assumption) ?re4
  case hye4 => intro w hSw; (try dsimp only at hSw); go_simp; first | done | with_reducible rfl
  case' re4 => try simp only [Act.put, sA9, sZ9, sS9]
  refine tkD9 (some 17) 5 ?ve5 rfl (by kernel_rfl) (by kernel_rfl) (fun _ _ _ h => h) (Or.inl ⟨by rfl, ?hye5⟩) (by assumption) ?re5
  case hye5 => intro w hSw; (try dsimp only at hSw); go_simp; first | done | with_reducible rfl
  case' re5 => try simp only [Act.put, sA9, sZ9, sS9]
  refine tkD9 (some 18) 6 ?ve6 rfl (by kernel_rfl) (by kernel_rfl) (fun _ _ _ h => h) (Or.inl ⟨by rfl, ?hye6⟩) (by assumption) ?re6
  case hye6 => intro w hSw; (try dsimp only at hSw); go_simp; first | done | with_reducible rfl
  case' re6 => try simp only [Act.put, sA9, sZ9, sS9]
  refine tkD9 (some 19) 7 ?ve7 rfl (by kernel_rfl) (by kernel_rfl) (fun _ _ _ h => h) (Or.inl ⟨by rfl, ?hye7⟩) (by assumption) ?re7
  case hye7 => intro w hSw; (try dsimp only at hSw); go_simp; first | done | with_reducible rfl
  case' re7 => try simp only [Act.put, sA9, sZ9, sS9]
  refine tkD9 (some 20) 8 ?ve8 rfl (by kernel_rfl) (by kernel_rfl) (fun _ _ _ h => h) (Or.inl ⟨by rfl, ?hye8⟩) (by assumption) ?re8
  case hye8 => intro w hSw; (try dsimp only at hSw); go_simp; first | done | with_reducible rfl
  case' re8 => try simp only [Act.put, sA9, sZ9, sS9]
  refine tkD9 (some 21) 9 ?ve9 rfl (by kernel_rfl) (by kernel_rfl) (fun _ _ _ h => h) (Or.inl ⟨by rfl, ?hye9⟩) (by assumption) ?re9
  case hye9 => intro w hSw; (try dsimp only at hSw); go_simp; first | done | with_reducible rfl
  case' re9 => try simp only [Act.put, sA9, sZ9, sS9]
  refine wpAnyH_ready (rs := [10]) (by kernel_rfl) (by simp) ?_; refine AllReadyH.cons rfl (fun K9 hK => ?_) AllReadyH.nil; go_simp; skip; refine (jY1j _ _ _ _ _ _ s r _ _ _ _ ly sk lx rk x.2 y.2 _ HLY.o HLX.o (IntsAt.ext (jZ1.at HYY.o) (Ext.refl X).drew) (IntsAt.ext (jZ1.at HX.o) (Ext.refl X).drew)).mono ?_; rw [HR.o]; rintro e w3 ⟨rfl, hE3⟩; have g3 := (Ext.refl X).drew.trans hE3; refine hK.out _ _ ⟨g3.keep p3, g3.keep x0, g3.keep x1, g3.keep x2, g3.keep x3, g3.keep x4, g3.keep z0, g3.keep z1, g3.keep z2, g3.keep z3, g3.keep z4⟩ (fun hHe10 => ?_); clear hK K9
  try simp only [Act.put, sA9, sZ9, sS9]
  refine tkD9 (some 5) 11 ?ve11 rfl (by kernel_rfl) (by kernel_rfl) (fun _ _ _ h => h) (Or.inl ⟨by rfl, ?hye11⟩) (by assumption) ?re11
  case hye11 => intro w hSw; (try dsimp only at hSw); go_simp; first | done | with_reducible rfl
  case' re11 => try simp only [Act.put, sA9, sZ9, sS9]
  refine wpAnyH_done (by kernel_rfl) ?_ _; have E3 := hid (HEX.o.trans g3); have HL3 : Hid (Lv (fun _ => False) X w3) := hid g3.lv; have HSX := hid g3.size_le; have c4 := (blk1 (g3.blk c3.out)).1; clear p3 x0 x1 x2 x3 x4 z0 z1 z2 z3 z4 g3 hE3 hHeld; by_cases hk0 : kk = 0
  ·have hb : (kk != 0) = false := by simp [hk0]
   have HDP : Hid (dpOf (kEv es) (pre0 ++ [(i, k)]) = dpOf (kEv es) pre0) := hid (by rw [jVE, jY3n (by rw [HKK.o]; exact hk0), List.append_nil]); clear hk0; gi_wp2; refine ⟨fun f hf => (by cases hf), ?_⟩; gi_wp2; refine ⟨own2, ⟨HL3.o.mono (fun _ _ h => h.elim), fun b hb => ⟨.inl hb, by have := (HOB.o b hb).1; have := HSX.o; omega⟩⟩, ?_, HV1.o.trans HL3.o (fun _ _ h => h) (fun _ _ h => h.elim), HOO.o⟩; rw [HDP.o]; exact HJ.o _ _ _ _ HJ1.o (HL3.o.mono (fun _ _ h => h.elim))
  ·have hb : (kk != 0) = true := by simp [hk0]
   have HDP : Hid (dpOf (kEv es) (pre0 ++ [(i, k)]) = dpOf (kEv es) pre0 ++ [(i, k, kk)]) := hid (by rw [jVE, jY1I hik (by rw [HKK.o]; exact hk0), HKK.o]); have hpre : (dpOf (kEv es) pre0 ++ [(i, k, kk)]) <+: dpOf (kEv es) (prTo M M) := by rw [<- HDP.o]; exact jY6l HPX.o
   obtain ⟨fn, tmps, assign, body, hy, hR⟩ := HY.o (dpOf (kEv es) pre0) (i, k, kk) own2 w3 (HJ.o _ _ _ _ HJ1.o (HL3.o.mono (fun _ _ h => h.elim))) hpre trivial (fun b hb => ⟨by have := (HOB.o b hb).1; have := HSX.o; omega, fun h => h.elim (fun h => (HOB.o b hb).2 (.inl h)) (fun e => (HOO.o b hb).elim (fun h => (HOWN.o b h).2 (.inr e)) (fun h => by have h2 := lt_of_block HB6.o; rw [e] at h; omega))⟩); dsimp only [encD] at hy; have HR9 := hid hR; have HPRE := hid hpre; clear hk0 hR hpre; gi_wp2_with (fail); refine ⟨hdd _, ?_⟩; refine (jY0g HR9.o).mono ?_; rintro e V2 ⟨own3, hg3, (⟨rfl, hj3⟩ | ⟨rfl, hj3⟩)⟩
   ·have HG : Hid (Grew own2 own3 X V2) := hid (Grew.pre HL3.o hg3)
    have HJ3 : Hid (J (dpOf (kEv es) (pre0 ++ [(i, k)])) own3 V2) := hid (by rw [HDP.o]; exact hj3); have HLV : Hid (Lv (fun k => k ∈ own) W6 V2) := hid (HV1.o.trans HG.o.1 (fun _ _ h => h) (fun b hb h => (HOO.o b h).resolve_right (by omega)))
    have HO3 : Hid (∀ b ∈ own3, b ∈ own \/ W6.heap.size <= b) := hid (fun b hb => by
     rcases (HG.o.2 b hb).1 with h | h
     ·exact HOO.o b h
     ·have := HV1.o.size; exact .inr (by omega))
    clear hg3 hj3 hy; gi_wp2; exact ⟨own3, HG.o, HJ3.o, HLV.o, HO3.o⟩
   ·have HG : Hid (Grew own2 own3 X V2) := hid (Grew.pre HL3.o hg3)
    have HJ3 : Hid (Jx (dpOf (kEv es) pre0 ++ [(i, k, kk)]) own3 V2) := hid hj3; have HLV : Hid (Lv (fun k => k ∈ own) W6 V2) := hid (HV1.o.trans HG.o.1 (fun _ _ h => h) (fun b hb h => (HOO.o b h).resolve_right (by omega))); clear hg3 hj3 hy; gi_wp2; exact ⟨own3, HG.o, rfl, ⟨_, HPRE.o, HJ3.o⟩, HLV.o⟩
 case done =>
  rintro E own2 X hE6' hEn ⟨hj, hv, hoo⟩ hob hv6 hz hdf; have hVX : Lv (fun k => k ∈ own \/ False) W X := (HVV.o.trans HV6.o (E := fun k => k ∈ own \/ False) (fun _ _ h => h.elim) (fun _ _ h => h.elim)).trans hv (fun _ _ h => h) (fun b hb h => .inl h)
  have hO : ∀ b ∈ own2, (b ∈ own \/ W.heap.size <= b) /\ b < X.heap.size := fun b hb => ⟨by
   rcases hoo b hb with h | h
   ·exact .inl h
   ·exact .inr (by omega), (hob b hb).2⟩
  have HA := hid hVX; have HBB := hid hj; have HC := hid hO; have HD := hid hdf; have HEN := hid hEn; have HEE : Hid (W.heap.size <= E /\ base <= E) := hid (by have := HBW.o; constructor <;> omega); clear hj hv hoo hob hv6 hz hdf hVX hO hEn hE6'; gi_wp2_with (fail); refine jZQ (fun _ => results_none rfl _ _ _) [E] X (fun E' h => by simp at h; subst h; exact HD.o) (by simp) (fun W' hW' => ?_); exact ⟨⟨_, rfl⟩, own2, fun b hb => ⟨(HC.o b hb).1, Nat.lt_of_lt_of_le (HC.o b hb).2 hW'.size⟩, HA.o.trans hW' (fun _ _ h => h) (fun b hb h => by have := HEE.o.1; simp at h; omega), trivial, .inl (HJ.o _ _ _ _ HBB.o (hW'.mono (fun b _ h => by simp at h; subst h; exact ⟨HEN.o, HEE.o.2⟩)))⟩
 case stop =>
  rintro E cd q own2 X hE6' hEn hq ⟨rfl, ⟨q', hq', hjx⟩, hv⟩ hob hv6 hz hdf; have hVX : Lv (fun k => k ∈ own \/ False) W X := (HVV.o.trans HV6.o (E := fun k => k ∈ own \/ False) (fun _ _ h => h.elim) (fun _ _ h => h.elim)).trans hv (fun _ _ h => h) (fun b hb h => .inl h)
  have hO : ∀ b ∈ own2, (b ∈ own \/ W.heap.size <= b) /\ b < X.heap.size := fun b hb => ⟨by
   rcases (hob b hb).1 with h | h
   ·exact .inl h
   ·exact .inr (by omega), (hob b hb).2⟩
  have HA := hid hVX; have HBB := hid hjx; have HC := hid hO; have HD := hid hdf; have HEN := hid hEn; have HQ := hid hq'; have HEE : Hid (W.heap.size <= E /\ base <= E) := hid (by have := HBW.o; constructor <;> omega); clear hjx hv hob hv6 hz hdf hVX hO hEn hE6' hq' hq; gi_wp2; refine jZQ (fun _ => results_none rfl _ _ _) [E] X (fun E' h => by simp at h; subst h; exact HD.o) (by simp) (fun W' hW' => ?_); exact ⟨⟨_, rfl⟩, own2, fun b hb => ⟨(HC.o b hb).1, Nat.lt_of_lt_of_le (HC.o b hb).2 hW'.size⟩, HA.o.trans hW' (fun _ _ h => h) (fun b hb h => by have := HEE.o.1; simp at h; omega), trivial, .inr ⟨q', HQ.o, HJX.o _ _ _ _ HBB.o (hW'.mono (fun b _ h => by simp at h; subst h; exact ⟨HEN.o, HEE.o.2⟩))⟩⟩
end
section
open Go.RowKit Go.Maps
attribute [local go_sem] Oper.semAt_some
def CoI (W1 : World) (RB : Nat) (s : List D3) (own : List Nat) (X : World) : Prop :=
 ∃ row p n c, own = RB :: row /\ (∀ b ∈ row, W1.heap.size <= b) /\ Lv (fun k => k = RB) W1 X /\ X.heap[RB]? = some (.cells #[.slice p n c] 96 (0, 0)) /\ s.length = n /\
  X.ownsRow W1.heap.size 191 3 (.slice p n c) n (flatD s) /\ (∀ b, (Value.slice p n c).ownBlock = some b -> b ∈ row)
theorem CoI.stable (W1 : World) (RB : Nat) : jX2 W1.heap.size (CoI W1 RB) := by
 rintro s own X X' ⟨row, p, n, c, rfl, h1, h2, h3, h4, h5, h6⟩ hv
 exact ⟨row, p, n, c, rfl, h1, h2.trans hv (fun _ _ h => h) (fun b hb h => by omega), hv.heap h3 (fun h => h.1 (by simp)), h4, row_lv h5 hv (fun b hb h => h.1 (by simp [h6 b hb])), h6⟩
theorem dl_len (K : Nat -> Nat -> Int) (M : Nat) (h : M <= 120) : (dpOf K (prTo M M)).length <= 20000 := by
 rw [jVA]
 have h1 := jW5 K M M
 have h3 : M * M <= 120 * 120 := Nat.mul_le_mul h h
 omega
end
end Go.Proofs.YtklehkkclojccaaGreat
