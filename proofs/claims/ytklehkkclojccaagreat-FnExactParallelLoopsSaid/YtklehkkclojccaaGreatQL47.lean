/- The texts G66 G67 G38, joined. No statement is proved here. -/
import Derived.Test.YtklehkkclojccaaGreatQL52
import Derived.Test.YtklehkkclojccaaGreatQL44
import Derived.Lib.SliceRun
import Derived.Test.YtklehkkclojccaaGreatQL41
set_option maxRecDepth 100000
set_option maxHeartbeats 8000000
set_option linter.unusedVariables false
set_option linter.unusedSimpArgs false
namespace Go.Proofs.YtklehkkclojccaaGreat
open Go.Lib (hid)
section
open Go.RowKit
def cmpL : List Int -> List Int -> Int
 | [], [] => 0
 | [], _ :: _ => -1
 | _ :: _, [] => 1
 | a :: p, b :: q => if a = b then cmpL p q else cmp3 a b
theorem cmp3_lt (x y : Int) : decide (cmp3 x y < 0) = decide (x < y) := by simp only [cmp3]; split <;> (try split) <;> simp <;> omega
theorem jY1p : ∀ p q : List Int, decide (cmpL p q < 0) = lexB p q
 | [], [] => rfl
 | [], _ :: _ => rfl
 | _ :: _, [] => rfl
 | a :: p, b :: q => by
  by_cases h : a = b
  ·have e1 : cmpL (a :: p) (b :: q) = cmpL p q := by simp [cmpL, h]
   have e2 : lexB (a :: p) (b :: q) = lexB p q := by simp [lexB, h]
   rw [e1, e2, jY1p p q]
  ·have e1 : cmpL (a :: p) (b :: q) = cmp3 a b := by simp [cmpL, h]
   have e2 : lexB (a :: p) (b :: q) = decide (a < b) := by simp [lexB, h]
   rw [e1, e2, cmp3_lt]
theorem jY0e {p q : List Int} {k : Nat} (h : p.take k = q.take k) : cmpL p q = cmpL (p.drop k) (q.drop k) := by
 induction k generalizing p q with
 | zero => simp
 | succ k ih =>
  match p, q, h with
  | [], [], _ => simp
  | [], b :: q, h => simp at h
  | a :: p, [], h => simp at h
  | a :: p, b :: q, h =>
   simp only [List.take_succ_cons, List.cons.injEq] at h; rw [List.drop_succ_cons, List.drop_succ_cons, <- ih h.2, h.1]; simp [cmpL]
theorem cmpL_at {p q : List Int} {k : Nat} {x y : Int} (h : p.take k = q.take k) (hx : p[k]? = some x) (hy : q[k]? = some y) (hne : x ≠ y) : cmpL p q = cmp3 x y := by
 rw [jY0e h, jXW hx, jXW hy]; simp [cmpL, hne]
theorem jY4M {p q : List Int} {k : Nat} (h : p.take k = q.take k) (hk : p.length = k) : cmpL p q = if k < q.length then -1 else 0 := by
 rw [jY0e h, List.drop_of_length_le (l := p) (by omega)]
 by_cases hq : k < q.length
 ·obtain ⟨y, hy⟩ := jZ0 (xs := q) (k := k) hq
  rw [jXW hy, if_pos hq]; rfl
 ·rw [List.drop_of_length_le (l := q) (by omega), if_neg hq]; rfl
theorem jY4k {p q : List Int} {k : Nat} (h : p.take k = q.take k) (hk : q.length = k) (hp : k < p.length) : cmpL p q = 1 := by
 obtain ⟨y, hy⟩ := jZ0 (xs := p) (k := k) hp
 rw [jY0e h, List.drop_of_length_le (l := q) (by omega), jXW hy]; rfl
theorem jVq (s t : Value) (xs ys : List Int) (w : World) (hs : IntsAt w s xs) (ht : IntsAt w t ys) :
  Calls Tryz.prog 118 #[s, t] w fun e w' => e = .returned (.int .i64 (cmpL xs ys)) /\ w = w' := by
 obtain ⟨p, c, rfl, hm, hc⟩ := hs.get
 obtain ⟨q, d, rfl, hm2, hd⟩ := ht.get
 clear hs ht
 generalize hlen : xs.length = n at *
 generalize hlen' : ys.length = n' at *
 have HL := hid hlen; have HN := hid hlen'; clear hlen hlen'
 have HC := hid hc; have HD := hid hd; clear hc hd
 go_enter Tryz.func118, Tryz.ntmps118
 go_wp2
 go_loop [11] (fun i => ∃ k : Nat, k <= n /\ k <= n' /\ i = .int .i64 k /\ xs.take k = ys.take k) (fun i => n - (intOf i).toNat)
 case atStart => exact ⟨0, by omega, by omega, rfl, by simp⟩
 case round =>
  obtain ⟨k, hk, hk', rfl, htk⟩ := hrel; have HT := hid htk; clear htk; by_cases hlt : k < n
  ·obtain ⟨x, hx⟩ := jZ0 (xs := xs) (k := k) (by rw [HL.o]; exact hlt)
   obtain ⟨b, off, rfl, hck, hbl⟩ := HC.o k x hx; by_cases hlt' : k < n'
   ·obtain ⟨y, hy⟩ := jZ0 (xs := ys) (k := k) (by rw [HN.o]; exact hlt')
    obtain ⟨b2, off2, rfl, hdk, hbl2⟩ := HD.o k y hy; have HX := hid hx; clear hx; have HY := hid hy; clear hy; go_wp2_with (fail); refine (cmp_any x y _).mono ?_; rintro e w1 ⟨rfl, rfl⟩; by_cases hxy : x = y
    ·have h0 : cmp3 x y = 0 := by simp [cmp3, hxy]
     rw [h0]; go_wp2
     go_round
     case rel => exact ⟨k + 1, by omega, by omega, by go_num, jX8 HX.o HY.o HT.o hxy⟩
     case measure => simp [intOf]; omega
    ·have hb : (cmp3 x y != 0) = true := by simp only [cmp3]; split <;> (try split) <;> simp <;> omega
     have HXY := hid hxy; clear hxy; have HZ := hid (cmpL_at HT.o HX.o HY.o HXY.o); generalize cmp3 x y = z at *; go_wp2; go_ret; exact ⟨jZc HZ.o.symm, rfl⟩
   ·have e : k = n' := by omega
    subst e; have HZ := hid (jY4k HT.o HN.o (by rw [HL.o]; exact hlt)); clear hx; go_wp2; go_ret; exact ⟨jZc HZ.o.symm, rfl⟩
  ·have e : k = n := by omega
   subst e; have HZ := hid (jY4M HT.o HL.o); by_cases hlt' : k < n'
   ·have hd1 : decide ((k : Int) < n') = true := by simp; omega
    have HZ2 : Hid (cmpL xs ys = -1) := hid (by rw [HZ.o, HN.o, if_pos hlt']); go_wp2; go_ret; exact ⟨jZc HZ2.o.symm, rfl⟩
   ·have hd1 : decide ((k : Int) < n') = false := by simp; omega
    have HZ2 : Hid (cmpL xs ys = 0) := hid (by rw [HZ.o, HN.o, if_neg hlt']); go_wp2; go_ret; exact ⟨jZc HZ2.o.symm, rfl⟩
theorem jY4P {p q : List Int} {k : Nat} {x y : Int} (hx : p[k]? = some x) (hy : q[k]? = some y) :
  ((subL p q).take k ++ p.drop k).set k (x - y) = (subL p q).take (k + 1) ++ p.drop (k + 1) /\ ((subL p q).take k ++ p.drop k)[k]? = some x := by
 have hz := jY5y hx hy
 have hk := (List.getElem?_eq_some_iff.1 hz).1
 have hlt : ((subL p q).take k).length = k := by rw [List.length_take]; omega
 constructor
 ·rw [jXW hx, List.set_append_right _ _ (by omega), hlt, Nat.sub_self, List.set_cons_zero, jZ6 hz, List.append_assoc]; rfl
 ·rw [jXW hx, List.getElem?_append_right (by omega), hlt, Nat.sub_self]; rfl
theorem jWi (ad : Addr) (q : Option Addr) (n c d : Nat) (xs ys : List Int) (w : World) (hx : xs.length = n) (hy : ys.length = n) (hn : n <= 1000) (hs : IntsAt w (.slice (some ad) n c) xs) (ht : IntsAt w (.slice q n d) ys) (hbx : ∀ x ∈ xs, -1000000 <= x /\ x <= 1000000) (hby : ∀ x ∈ ys, -1000000 <= x /\ x <= 1000000) :
  Calls Tryz.prog 116 #[.slice (some ad) n c, .slice q n d] w fun e w' => (∃ g c', e = .returned (.slice (some ⟨g, 0, none⟩) n c') /\ jZ1 w.heap.size w' (.slice (some ⟨g, 0, none⟩) n c') (subL xs ys) /\ w.heap.size <= g /\ g < w'.heap.size) /\ Ext w w' := by
 obtain ⟨-, hc⟩ := hs.cl
 obtain ⟨-, hd⟩ := ht.cl
 have HX := hid hx; have HY := hid hy; have HD := hid hd; have HBX := hid hbx; have HBY := hid hby
 have HSL : Hid ((subL xs ys).length = n) := hid (jY0W hx hy)
 have HC : Hid (∀ i x, xs[i]? = some x -> w.cell? (ad.add i) = some (.int .i64 x)) := hid (fun i x hi => by
  obtain ⟨b, off, e, hcell⟩ := hc i x hi; cases e
  have hadd : (⟨b, off, none⟩ : Addr).add i = ⟨b, off + i, none⟩ := by unfold Addr.add; split <;> simp_all
  rw [hadd]; exact hcell)
 clear hx hy hc hd hs ht hbx hby
 go_enter Tryz.func116, Tryz.ntmps116
 go_wp2_with (fail)
 refine (jW3 ad n c xs _ HX.o HC.o (by omega)).mono ?_
 rintro e w1 ⟨g, c', rfl, ho, hg0, hg1, hE1⟩
 have HO := hid ho; have E1 := hid hE1
 clear ho hE1
 go_wp2
 go_loopw [12] (fun iv wr => ∃ k : Nat, k <= n /\ iv = .int .i64 k /\ jZ1 w.heap.size wr (.slice (some ⟨g, 0, none⟩) n c') ((subL xs ys).take k ++ xs.drop k) /\ Ext w wr /\ g < wr.heap.size) (fun iv _ => n - (intOf iv).toNat)
 case atStart => exact ⟨0, by omega, rfl, by simpa using HO.o, E1.o, hg1⟩
 case round =>
  obtain ⟨k, hk, rfl, ho, hE, hgl⟩ := hrel; clear HO E1; have HO := hid ho; have HE := hid hE; clear ho hE; by_cases hlt : k < n
  ·obtain ⟨x, hx⟩ := jZ0 (xs := xs) (k := k) (by rw [HX.o]; exact hlt)
   obtain ⟨y, hy⟩ := jZ0 (xs := ys) (k := k) (by rw [HY.o]; exact hlt); obtain ⟨b2, off2, rfl, hcy⟩ := HD.o k y hy; obtain ⟨hs1, hs2⟩ := jY4P hx hy; have c2 := HE.o.keep hcy; have hb1 := HBX.o x (List.mem_of_getElem? hx); have hb2 := HBY.o y (List.mem_of_getElem? hy); have hwv : IntKind.i64.wrap (x - y) = x - y := IntWalk.i64_in _ (by omega); have hca := HO.o.cellI hs2; have hfz := HO.o.frz k; have hll : ((subL xs ys).take k ++ xs.drop k).length = n := by rw [List.length_append, List.length_take, List.length_drop, HSL.o, HX.o]; omega
   have HO2 : Hid (jZ1 w.heap.size (wr.setCell ⟨g, k, none⟩ (.int .i64 (x - y))) (.slice (some ⟨g, 0, none⟩) n c') ((subL xs ys).take (k + 1) ++ xs.drop (k + 1))) := hid (by rw [<- hs1]; exact HO.o.store hll k _); have HE2 := hid (HE.o.setCell (p := ⟨g, k, none⟩) hg0 (.int .i64 (x - y))); have HG2 : Hid (g < (wr.setCell ⟨g, k, none⟩ (.int .i64 (x - y))).heap.size) := hid (by simpa using hgl); have hkI : (k : Int) < (n : Int) := by omega
   clear hx hy hcy hs1 hs2 hll; go_wp2; go_roundw
   case rel => exact ⟨k + 1, by omega, by go_num, HO2.o, HE2.o, HG2.o⟩
   case measure => simp [intOf]; omega
  ·obtain rfl : k = n := by omega
   have HR : Hid (jZ1 w.heap.size wr (.slice (some ⟨g, 0, none⟩) k c') (subL xs ys)) := hid (by have h := HO.o; rwa [List.take_of_length_le (by rw [HSL.o]; omega), List.drop_of_length_le (by rw [HX.o]; omega), List.append_nil] at h); go_wp2; go_ret; exact ⟨⟨g, c', rfl, HR.o, hg0, hgl⟩, HE.o⟩
end
section
open Go.RowKit
abbrev EA := Value × List Int
def RwA (B o : Nat) (w : World) (a : EA) : Prop := ∃ g c, a.1 = .slice (some ⟨g, 0, none⟩) a.2.length c /\ g ≠ o /\ jZ1 B w a.1 a.2
theorem RwA.lv {B o : Nat} {w w' : World} {a : EA} (h : RwA B o w a) (hv : Lv (fun b => b = o) w w') : RwA B o w' a := by
 obtain ⟨g, c, e, hg, hi⟩ := h
 refine ⟨g, c, e, hg, row_lv hi hv (fun b hb hd => ?_)⟩
 rw [e] at hb
 simp only [Value.ownBlock, Option.some.injEq] at hb
 omega
theorem jY1g {B size n c g : Nat} {t : TypeId} {w : World} {xs : List Value} (h : w.ownsRow B t size (.slice (some ⟨g, 0, none⟩) n c) n xs) (j : Nat) : w.frozen? ⟨g, j, none⟩ = false := by
 rcases h.2 with ⟨e, _⟩ | ⟨g', cap, cur, e, _, hg, _⟩
 ·cases e
 ·cases e; simp [World.frozen?, hg]
theorem jWO {t : TypeId} {fz : Nat × Nat} (o : Nat) : ∀ (vs : List Value) (i : Nat) (w : World) (cur : Array Value), w.heap[o]? = some (.cells cur t fz) ->
  ∃ cur', (w.setCells o i vs).heap[o]? = some (.cells cur' t fz) /\ cur'.size = cur.size /\ ∀ j, j < i -> cur'[j]? = cur[j]?
 | [], i, w, cur, h => ⟨cur, h, rfl, fun _ _ => rfl⟩
 | v :: vs, i, w, cur, h => by
  obtain ⟨cur', h1, h2, h3⟩ := jWO (t := t) (fz := fz) o vs (i + 1) (w.setCell ⟨o, i, none⟩ v) (cur.setIfInBounds i v) (by simp [World.setCell, Array.getElem?_modify, h]); refine ⟨cur', h1, by rw [h2]; simp, fun j hj => ?_⟩; rw [h3 j (by omega), Array.getElem?_setIfInBounds, if_neg (by omega)]
theorem jY07 (o : Nat) : ∀ (vs : List Value) (i : Nat) (w : World), Lv (fun b => b = o) w (w.setCells o i vs)
 | [], _, w => Lv.refl _ w
 | v :: vs, i, w => (lv_set w o i v).trans (jY07 o vs (i + 1) _) (fun _ _ h => h) (fun _ _ h => h)
theorem jVR {B o n c kk : Nat} {t : TypeId} {w : World} {xs vs : List Value} (h : w.ownsRow B t 1 (.slice (some ⟨o, 0, none⟩) n c) n xs) (hk : kk <= n) : (w.setCells o kk vs).ownsRow B t 1 (.slice (some ⟨o, 0, none⟩) kk c) kk (xs.take kk) := by
 have hl := h.1
 rcases h.2 with ⟨e, _⟩ | ⟨g, cap, cur, e, hB, hg, h1, h2, h3, h4⟩
 ·cases e
 ·cases e
  obtain ⟨cur', k1, k2, k3⟩ := jWO o vs kk w cur hg; refine ⟨by rw [List.length_take]; omega, .inr ⟨o, c, cur', rfl, hB, k1, by omega, h2, by omega, ?_⟩⟩; rw [<- h4, List.take_take, Nat.mul_one, Nat.mul_one, Nat.min_eq_left hk]; apply List.ext_getElem?
  intro j; rw [List.getElem?_take, List.getElem?_take]
  split
  ·rename_i hj
   rw [Array.getElem?_toList, Array.getElem?_toList, k3 j hj]
  ·rfl
theorem jY4T {al : List EA} {k : Nat} {x y : EA} (hx : al[k + 1]? = some x) (hy : al[k]? = some y) (he : y.2 = x.2) (hall : ∀ j x y, j + 1 < k + 1 -> al[j]? = some y -> al[j + 1]? = some x -> y.2 ≠ x.2) : cpK (fun a : EA => a.2) al (k + 1 + 1) = al.take (k + 1) := by
 rw [jWK hx hy, if_pos he, jY1d (by have := (List.getElem?_eq_some_iff.1 hx).1; omega) hall]
theorem jY1M (p : Option Addr) (c : Nat) (w : World) :
  Calls Tryz.prog 119 #[.slice p 0 c, .func (.func 120) #[] #[]] w fun e w' => e = .returned (.slice p 0 c) /\ w' = w := by
 go_enter Tryz.func119, Tryz.ntmps119
 go_wp2
 go_ret
 exact ⟨rfl, rfl⟩
theorem jY1Y (B o n c : Nat) (al : List EA) (w : World) (hn : al.length = n) (hn2 : n <= 20000) (ho : w.ownsRow B 39 1 (.slice (some ⟨o, 0, none⟩) n c) n (al.map (fun a => a.1))) (hr : ∀ a ∈ al, RwA B o w a) :
  Calls Tryz.prog 119 #[.slice (some ⟨o, 0, none⟩) n c, .func (.func 120) #[] #[]] w fun e w' =>
   (∃ m, e = .returned (.slice (some ⟨o, 0, none⟩) m c) /\ (cpK (fun a : EA => a.2) al n).length = m /\ w'.ownsRow B 39 1 (.slice (some ⟨o, 0, none⟩) m c) m ((cpK (fun a : EA => a.2) al n).map (fun a => a.1))) /\ Lv (fun b => b = o) w w' := by
 have HN := hid hn; have HO := hid ho; have HR := hid hr
 have hcap : n <= c := by
  rcases ho.2 with ⟨e, _⟩ | ⟨g', cap, cur, e, _, hg, h1, _⟩
  ·cases e
  ·cases e; exact h1
 clear hn ho hr
 by_cases h2 : n < 2
 ·have hall : cpK (fun a : EA => a.2) al n = al := by rw [jY1d (by rw [HN.o]; omega) (fun j x y hj => by omega), List.take_of_length_le (by rw [HN.o]; omega)]
  have HALL := hid hall; clear hall
  go_enter Tryz.func119, Tryz.ntmps119
  go_wp2; go_ret; exact ⟨⟨n, rfl, by rw [HALL.o, HN.o], by rw [HALL.o]; exact HO.o⟩, Lv.refl _ _⟩
 ·go_enter Tryz.func119, Tryz.ntmps119
  go_wp2
  go_loopw [5] (fun kv wr => ∃ k : Nat, 1 <= k /\ k <= n /\ kv = .int .i64 k /\ (∀ j x y, j + 1 < k -> al[j]? = some y -> al[j + 1]? = some x -> y.2 ≠ x.2) /\ Ext w wr) (fun kv _ => n - (intOf kv).toNat)
  case atStart => exact ⟨1, by omega, by omega, rfl, fun j x y hj => by omega, Ext.refl w⟩
  case round =>
   obtain ⟨k1, hk1, hk, rfl, hall, hE⟩ := hrel; have HALL := hid hall; have HE := hid hE; clear hall hE; by_cases hlt : k1 < n
   ·obtain ⟨k, hk1e⟩ : ∃ k, k1 = k + 1 := ⟨k1 - 1, by omega⟩
    have HK1 := hid hk1e; obtain ⟨x, hx⟩ := jZ0 (xs := al) (k := k1) (by rw [HN.o]; exact hlt); obtain ⟨y, hy⟩ := jZ0 (xs := al) (k := k) (by rw [HN.o]; omega); have hor := jZ3 HO.o HE.o; have cx : wr.cell? ⟨o, k1, none⟩ = some x.1 := by rw [hor.cellAt k1 (by omega), List.getElem?_map, hx]; rfl
    have cy : wr.cell? ⟨o, k, none⟩ = some y.1 := by rw [hor.cellAt k (by omega), List.getElem?_map, hy]; rfl
    obtain ⟨gx, dx, ex, -, hix⟩ := (HR.o x (List.mem_of_getElem? hx)).lv (HE.o.lv); obtain ⟨gy, dy, ey, -, hiy⟩ := (HR.o y (List.mem_of_getElem? hy)).lv (HE.o.lv); obtain ⟨lx, hlx⟩ : ∃ n, x.2.length = n := ⟨_, rfl⟩; obtain ⟨ly, hly⟩ : ∃ n, y.2.length = n := ⟨_, rfl⟩; rw [ex, hlx] at cx hix; rw [ey, hly] at cy hiy; obtain ⟨bb, hbb⟩ : ∃ b, eqB x.2 y.2 = b := ⟨_, rfl⟩; have HX := hid hx; have HY := hid hy; have HIX := hid hix; have HIY := hid hiy; have HBB := hid hbb; have HEX := hid ex; have hkd : (k1 : Int) - 1 = (k : Int) := by omega
    have hkw : IntKind.i64.wrap (k : Int) = (k : Int) := IntWalk.i64_in _ (by omega); have hkI : (k1 : Int) < (n : Int) := by omega
    have hkI2 : (k : Int) < (n : Int) := by omega
    clear hx hy hor ex ey hix hiy hlx hly hbb hk1e; go_wp2_with (fail)
    go_region_held3 (fun W => W.cell? ⟨o, k1, none⟩ = some (.slice (some ⟨gx, 0, none⟩) lx dx) /\ W.cell? ⟨o, k, none⟩ = some (.slice (some ⟨gy, 0, none⟩) ly dy))
     (first | exact ⟨cx, cy⟩ | exact ⟨g3.keep cx, g3.keep cy⟩ | fail)
     (first | (go_at_call 120; (with_reducible refine (jXk _ _ x.2 y.2 _ (HIX.o.at.ext (Ext.refl wr).drew) (HIY.o.at.ext (Ext.refl wr).drew)).mono ?_); rw [HBB.o]; rintro e w4 ⟨rfl, hE4⟩; have g3 := (Ext.refl wr).drew.trans hE4) | fail)
    have E4 := hid (HE.o.trans g3); clear g3 hE4 cx cy; cases bb with
    | false =>
     have hne : y.2 ≠ x.2 := fun e => by have h := HBB.o; unfold eqB at h; simp [e] at h
     have HALL2 : Hid (∀ j x y, j + 1 < k1 + 1 -> al[j]? = some y -> al[j + 1]? = some x -> y.2 ≠ x.2) := hid (fun j x' y' hj h1 h2 => by
      have hk1e := HK1.o; rcases Nat.lt_or_ge (j + 1) k1 with h | h
      ·exact HALL.o j x' y' h h1 h2
      ·obtain rfl : j = k := by omega
       rw [HY.o] at h1; rw [<- hk1e, HX.o] at h2
       cases h1; cases h2; exact hne)
     clear hne hkd hkw; go_wp2; go_roundw
     case rel => exact ⟨k1 + 1, by omega, by omega, by go_num, HALL2.o, E4.o⟩
     case measure => simp [intOf]; omega
    | true =>
     have heq : y.2 = x.2 := by have h := HBB.o; unfold eqB at h; simpa using (of_decide_eq_true h).symm
     have HST : Hid (cpK (fun a : EA => a.2) al (k1 + 1) = al.take k1) := hid (by
      have hk1e := HK1.o; subst hk1e
      exact jY4T HX.o HY.o heq HALL.o)
     obtain ⟨r, hr⟩ : ∃ r, n - k1 = r := ⟨_, rfl⟩; obtain ⟨cr, hcr⟩ : ∃ r, c - k1 = r := ⟨_, rfl⟩; have HO4 := hid (jZ3 HO.o E4.o); have HL4 : Hid (Lv (fun b => b = o) w w4) := hid E4.o.lv; clear heq hkd hkw; go_wp2
     go_loopw [5, 7] (fun kv jv wr => ∃ (kk j : Nat) (dk : List EA), kv = .int .i64 kk /\ jv = .int .i64 j /\ 1 <= j /\ k1 + j <= n /\ kk < k1 + j /\ dk.length = n /\ dk.take kk = cpK (fun a : EA => a.2) al (k1 + j) /\ (∀ i, k1 + j <= i + 1 -> dk[i]? = al[i]?) /\ wr.ownsRow B 39 1 (.slice (some ⟨o, 0, none⟩) n c) n (dk.map (fun a => a.1)) /\ Lv (fun b => b = o) w wr) (fun _ jv _ => n - (intOf jv).toNat)
     case atStart => exact ⟨k1, 1, al, rfl, rfl, by omega, by omega, by omega, HN.o, HST.o.symm, fun _ _ => rfl, HO4.o, HL4.o⟩
     case round =>
      obtain ⟨kk, j1, dk, rfl, rfl, hj1, hjn, hkk, hdl, hdt, hdh, hdo, hlv⟩ := hrel; obtain ⟨j, hj1e⟩ : ∃ j, j1 = j + 1 := ⟨j1 - 1, by omega⟩; have HJ1 := hid hj1e; have HDL := hid hdl; have HDT := hid hdt; have HDH := hid hdh; have HDO := hid hdo; have HLV := hid hlv; by_cases hlt2 : k1 + j1 < n
      ·obtain ⟨x2, hx2⟩ := jZ0 (xs := al) (k := k1 + j1) (by rw [HN.o]; exact hlt2)
       obtain ⟨y2, hy2⟩ := jZ0 (xs := al) (k := k1 + j) (by rw [HN.o]; omega); obtain ⟨z2, hz2⟩ := jZ0 (xs := dk) (k := kk) (by omega); have cx : wr.cell? ⟨o, k1 + j1, none⟩ = some x2.1 := by rw [hdo.cellAt (k1 + j1) (by omega), List.getElem?_map, hdh _ (by omega), hx2]; rfl
       have cy : wr.cell? ⟨o, k1 + j, none⟩ = some y2.1 := by rw [hdo.cellAt (k1 + j) (by omega), List.getElem?_map, hdh _ (by omega), hy2]; rfl
       have ck : wr.cell? ⟨o, kk, none⟩ = some z2.1 := by rw [hdo.cellAt kk (by omega), List.getElem?_map, hz2]; rfl
       have fk := jY1g hdo kk; obtain ⟨gx, dx, ex, -, hix⟩ := (HR.o x2 (List.mem_of_getElem? hx2)).lv hlv; obtain ⟨gy, dy, ey, -, hiy⟩ := (HR.o y2 (List.mem_of_getElem? hy2)).lv hlv; obtain ⟨lx, hlx⟩ : ∃ n, x2.2.length = n := ⟨_, rfl⟩; obtain ⟨ly, hly⟩ : ∃ n, y2.2.length = n := ⟨_, rfl⟩; obtain ⟨zv, hzv⟩ : ∃ z, z2.1 = z := ⟨_, rfl⟩; rw [hzv] at ck; rw [ex, hlx] at cx hix; rw [ey, hly] at cy hiy; obtain ⟨bb, hbb⟩ : ∃ b, eqB x2.2 y2.2 = b := ⟨_, rfl⟩; have HX2 := hid hx2; have HY2 := hid hy2; have HIX2 := hid hix; have HIY2 := hid hiy; have HBB2 := hid hbb; have HEX2 := hid ex; have HLX2 := hid hlx; have HCK := hid ck; have HFK := hid fk; have HCX := hid cx; have hkd : (j1 : Int) - 1 = (j : Int) := by omega
       have hkw : IntKind.i64.wrap (j : Int) = (j : Int) := IntWalk.i64_in _ (by omega); have hj0 : (j1 : Int) < (r : Int) := by omega
       have hj3 : (j : Int) < (r : Int) := by omega
       clear hx2 hy2 hz2 ex ey hix hiy hlx hly hzv hbb hdl hdt hdh hdo hlv ck fk hj1e; go_wp2_with (fail)
       go_region_held3 (fun W => W.cell? ⟨o, k1 + j1, none⟩ = some (.slice (some ⟨gx, 0, none⟩) lx dx) /\ W.cell? ⟨o, k1 + j, none⟩ = some (.slice (some ⟨gy, 0, none⟩) ly dy))
        (first | exact ⟨cx, cy⟩ | exact ⟨g3.keep cx, g3.keep cy⟩ | fail)
        (first | (go_at_call 120; (with_reducible refine (jXk _ _ x2.2 y2.2 _ (HIX2.o.at.ext (Ext.refl wr).drew) (HIY2.o.at.ext (Ext.refl wr).drew)).mono ?_); rw [HBB2.o]; rintro e w5 ⟨rfl, hE5⟩; have g3 := (Ext.refl wr).drew.trans hE5) | fail)
       have HLV5 : Hid (Lv (fun b => b = o) w w5) := hid (HLV.o.trans (g3.lv (D := fun _ => False)) (fun _ _ h => h) (fun _ _ h => h.elim)); have HDO5 := hid (jZ3 HDO.o g3); have cx5 := g3.keep HCX.o; have ck5 := g3.keep HCK.o; have fk5 := jY1g HDO5.o kk; clear g3 hE5 cx cy; cases bb with
       | true =>
        have heq : y2.2 = x2.2 := by have h := HBB2.o; unfold eqB at h; simpa using (of_decide_eq_true h).symm
        have HNX : Hid (dk.take kk = cpK (fun a : EA => a.2) al (k1 + (j1 + 1))) := hid (by
         have hj := HJ1.o; subst hj
         rw [show k1 + (j + 1 + 1) = k1 + j + 1 + 1 by omega, jWK (k := k1 + j) HX2.o HY2.o, if_pos heq, HDT.o]; rfl)
        clear heq hkd hkw cx5 ck5 fk5; go_wp2; go_roundw
        case rel => exact ⟨kk, j1 + 1, dk, rfl, by go_num, by omega, by omega, by omega, HDL.o, HNX.o, fun i hi => HDH.o i (by omega), HDO5.o, HLV5.o⟩
        case measure => simp [intOf]; omega
       | false =>
        have hne : ¬ (y2.2 = x2.2) := fun e => by have h := HBB2.o; unfold eqB at h; simp [e] at h
        have hpre : dk.take kk = cpK (fun a : EA => a.2) al (k1 + j + 1) := by have h := HDT.o; rw [HJ1.o] at h; exact h
        have HNX : Hid ((dk.set kk x2).take (kk + 1) = cpK (fun a : EA => a.2) al (k1 + (j1 + 1))) := hid (by
         rw [show k1 + (j1 + 1) = k1 + j + 1 + 1 by have := HJ1.o; omega, jWK (k := k1 + j) (by have h := HX2.o; rw [HJ1.o] at h; exact h) HY2.o, if_neg hne, <- hpre, List.take_add_one, List.getElem?_set_self (by rw [HDL.o]; omega), List.take_set_of_le (Nat.le_refl _)]
         rfl)
        have HDL2 : Hid ((dk.set kk x2).length = n) := hid (by rw [List.length_set]; exact HDL.o); have HDH2 : Hid (∀ i, k1 + (j1 + 1) <= i + 1 -> (dk.set kk x2)[i]? = al[i]?) := hid (fun i hi => by rw [List.getElem?_set_ne (by omega)]; exact HDH.o i (by omega))
        have HDO6 : Hid ((w5.setCell ⟨o, kk, none⟩ (.slice (some ⟨gx, 0, none⟩) lx dx)).ownsRow B 39 1 (.slice (some ⟨o, 0, none⟩) n c) n ((dk.set kk x2).map (fun a => a.1))) := hid (by
         have h := (World.ownsRow.stored HDO5.o kk (.slice (some ⟨gx, 0, none⟩) lx dx)).1; rw [List.map_set, HEX2.o, HLX2.o]
         exact h)
        have HLV6 : Hid (Lv (fun b => b = o) w (w5.setCell ⟨o, kk, none⟩ (.slice (some ⟨gx, 0, none⟩) lx dx))) := hid (HLV5.o.trans (lv_set w5 o kk _) (fun _ _ h => h) (fun _ _ h => h)); clear hne hkd hkw hpre; go_wp2; go_roundw
        case rel => exact ⟨kk + 1, j1 + 1, dk.set kk x2, by go_num, by go_num, by omega, by omega, by omega, HDL2.o, HNX.o, HDH2.o, HDO6.o, HLV6.o⟩
        case measure => simp [intOf]; omega
      ·have hje : k1 + j1 = n := by omega
       have hcl : ∀ ty, (Builtin.clear_ #[46] ty #[.slice (some ⟨o, kk, none⟩) (n - kk) (c - kk)]).run Tryz.prog wr = .ok (.tuple #[]) (wr.setCells o kk (List.replicate (n - kk) (.slice none 0 0))) := fun ty =>
        Lib.run_clear_slice wr 46 39 ty (.slice none 0 0) jXl Tryz.zeroValue39 rfl rfl o kk (n - kk) (c - kk) (by omega)
         (fun j hj => by
          obtain ⟨z, hz⟩ := jZ0 (xs := dk) (k := kk + j) (by omega)
          rw [hdo.cellAt (kk + j) (by omega), List.getElem?_map, hz]; rfl)
         (fun j hj => jY1g hdo _)
       have hdt2 : dk.take kk = cpK (fun a : EA => a.2) al n := by rw [hdt, hje]
       have hlk : (cpK (fun a : EA => a.2) al n).length = kk := by rw [<- hdt2, List.length_take]; omega
       have HRF : Hid ((wr.setCells o kk (List.replicate (n - kk) (.slice none 0 0))).ownsRow B 39 1 (.slice (some ⟨o, 0, none⟩) kk c) kk ((cpK (fun a : EA => a.2) al n).map (fun a => a.1))) := hid (by
        have h := jVR (vs := List.replicate (n - kk) (.slice none 0 0)) hdo (by omega : kk <= n); rw [<- List.map_take, hdt2] at h
        exact h)
       have HLF : Hid (Lv (fun b => b = o) w (wr.setCells o kk (List.replicate (n - kk) (.slice none 0 0)))) := hid (hlv.trans (jY07 o _ kk wr) (fun _ _ h => h) (fun _ _ h => h)); have HLK := hid hlk; have hkn : kk <= n := by omega
       have hj0 : ¬ (j1 : Int) < (r : Int) := by omega
       clear hdl hdt hdh hdo hlv hdt2 hlk hje hj1e HDL HDT HDH HDO HLV; go_wp2; go_ret; exact ⟨⟨kk, rfl, HLK.o, HRF.o⟩, HLF.o⟩
   ·obtain rfl : k1 = n := by omega
    have hall : cpK (fun a : EA => a.2) al k1 = al := by rw [jY1d (by rw [HN.o]; omega) HALL.o, List.take_of_length_le (by rw [HN.o]; omega)]
    have HAL2 := hid hall; clear hall; go_wp2; go_ret; exact ⟨⟨k1, rfl, by rw [HAL2.o, HN.o], by rw [HAL2.o]; exact jZ3 HO.o HE.o⟩, HE.o.lv⟩
end
section
open Go.RowKit Go.Maps
theorem jY4f (v : Value) (ars : List Arr) (ps : List Pt) (w : World) (hp : PrR w v ars ps) (hb : progB ars ps = true) :
  Calls Tryz.prog 66 #[v] w fun e w' => (∃ v', e = .returned v' /\ jZu w.heap.size w' v' (depsB ars ps)) /\ Ext w w' := by
 obtain ⟨j0, hj0, hj1, hj2, hj3⟩ := info_parts infoDep
 obtain ⟨qa, ca, qp, cp, rfl, hla, hlp, ha, hps⟩ := hp.parts
 obtain ⟨na, hna⟩ : ∃ n, ars.length = n := ⟨_, rfl⟩
 obtain ⟨np, hnp⟩ : ∃ n, ps.length = n := ⟨_, rfl⟩
 have hM120 := jWE hb
 obtain ⟨M, hM⟩ : ∃ M, (insM ps).length = M := ⟨_, rfl⟩
 obtain ⟨K, hK⟩ : ∃ K, kOf (usesM ars ps) = K := ⟨_, rfl⟩
 have hdb : depsB ars ps = depsTo K M M := by unfold depsB; rw [if_pos hb, hM, hK]
 rw [hM] at hM120
 rw [hna, hnp] at hp ⊢
 rw [hdb]
 have HP := hid hp; have HB := hid hb; have HM := hid hM; have HK := hid hK
 have HUM : Hid ((usesM ars ps).length = M) := hid (by rw [jY4W, hM])
 clear hp ha hps hna hnp hb hM hK hdb
 go_enter Tryz.func66, Tryz.ntmps66
 go_wp2_with (fail)
 obtain ⟨W1, hW1⟩ : ∃ W1, w.alloc (.cells #[.slice qa na ca, .slice qp np cp] 32) = W1 := ⟨_, rfl⟩
 have E1 : Hid (Ext w W1) := hid (by rw [<- hW1]; exact (Ext.refl w).alloc _)
 have HZ1 : Hid (W1.heap.size = w.heap.size + 1) := hid (by rw [<- hW1]; simp)
 obtain ⟨W2, hW2⟩ : ∃ W2, W1.alloc (.cells #[] 191) = W2 := ⟨_, rfl⟩
 have HI0 : Hid (jZu (w.heap.size + 1) W2 (.slice (some ⟨w.heap.size + 1, 0, none⟩) 0 0) []) := hid (by have h := World.ownsRow_made (e := 191) (size := 3) W1 #[] 0 (Nat.le_refl _) (Nat.zero_le _) rfl; rw [HZ1.o, hW2] at h; exact h)
 have E2 := hid (show Ext W1 W2 by rw [<- hW2]; exact (Ext.refl W1).alloc _)
 try rw [hW1]
 try rw [hW2]
 clear hW1 hW2
 refine (jY46 _ ars ps _ (HP.o.ext (E1.o.trans E2.o)) HB.o).mono ?_
 rintro e w3 ⟨⟨q, c, rfl, hu⟩, hE3⟩
 rw [HM.o] at hu ⊢
 have HU := hid hu; have E3 := hid (E2.o.trans hE3); have HD3 := hid (HI0.o.ext hE3)
 clear hE3 hu
 go_wp2
 go_loopw [3, 5] (fun ov iv wr => ∃ (i : Nat) (q0 : Option Addr) (m c0 : Nat), i <= M /\ iv = .int .i64 i /\ ov = .slice q0 m c0 /\ (depsTo K M i).length = m /\ jZu (w.heap.size + 1) wr (.slice q0 m c0) (depsTo K M i) /\ jZC W2.heap.size wr (.slice q M c) (usesM ars ps) /\ Ext W1 wr) (fun _ iv _ => M - (intOf iv).toNat)
 case atStart => exact ⟨0, _, 0, _, by omega, rfl, rfl, rfl, HD3.o, HU.o, E3.o⟩
 case round =>
  obtain ⟨i, q0, m, c0, hi, rfl, rfl, hm, hd, hu, hE⟩ := hrel; clear HD3 HU; have HMM := hid hm; have HD := hid hd; have HU := hid hu; have HE := hid hE; clear hm hd hu hE; by_cases hiM : i < M
  ·have HA : Hid ((depsTo K M i ++ rowTo K i (i + 1)).length = m) := hid (by rw [jWl K i _ (Nat.le_refl _), List.append_nil]; exact HMM.o)
   have HD1 : Hid (jZu (w.heap.size + 1) wr (.slice q0 m c0) (depsTo K M i ++ rowTo K i (i + 1))) := hid (by rw [jWl K i _ (Nat.le_refl _), List.append_nil]; exact HD.o); go_wp2
   go_loopw [3, 6] (fun ov kv wr => ∃ (k : Nat) (q0 : Option Addr) (m c0 : Nat), i + 1 <= k /\ k <= M /\ kv = .int .i64 k /\ ov = .slice q0 m c0 /\ (depsTo K M i ++ rowTo K i k).length = m /\ jZu (w.heap.size + 1) wr (.slice q0 m c0) (depsTo K M i ++ rowTo K i k) /\ jZC W2.heap.size wr (.slice q M c) (usesM ars ps) /\ Ext W1 wr) (fun _ kv _ => M - (intOf kv).toNat)
   case atStart => exact ⟨i + 1, _, m, _, by omega, by omega, by go_num, rfl, HA.o, HD1.o, HU.o, HE.o⟩
   case round =>
    obtain ⟨k, q0, m, c0, hik, hk, rfl, rfl, hm, hd, hu, hE⟩ := hrel; clear HD HD1 HU HE HMM HA
    have hmb : m <= 14520 := by
     have h1 := jW5 K M i; have h2 := jY02 K i k; have h3 : i * M <= 120 * 120 := Nat.mul_le_mul (by omega) (by omega); rw [List.length_append] at hm; omega
    have HMM := hid hm; have HD := hid hd; have HU := hid hu; have HE := hid hE; clear hm hd hu hE; by_cases hkM : k < M
    ·obtain ⟨x, hx⟩ := jZ0 (xs := usesM ars ps) (k := i) (by rw [HUM.o]; exact hiM)
     obtain ⟨y, hy⟩ := jZ0 (xs := usesM ars ps) (k := k) (by rw [HUM.o]; exact hkM); obtain ⟨o, r, rk, rfl, hol, x0, x1, hrx⟩ := HU.o.elem hx; obtain ⟨o', s, sk, ho', -, z0, z1, hry⟩ := HU.o.elem hy; obtain rfl : o = o' := by cases ho'; rfl
     obtain ⟨kk, hkk⟩ : ∃ z, K i k = z := ⟨_, rfl⟩; have HR : Hid (kindB x y = kk) := hid (by rw [<- hkk, <- HK.o]; exact (kOf_is hx hy).symm); have hkb := jY4L x y; rw [HR.o] at hkb; obtain ⟨lx, hlx⟩ : ∃ n, x.1.length = n := ⟨_, rfl⟩; obtain ⟨ly, hly⟩ : ∃ n, y.1.length = n := ⟨_, rfl⟩; rw [hlx] at x0 hrx; rw [hly] at z0 hry; have HX := hid hrx; have HY := hid hry; have HLX := hid hlx; have HLY := hid hly; have HKK := hid hkk; have hiI : (i : Int) < (M : Int) := by omega
     have hkI : (k : Int) < (M : Int) := by omega
     clear hx hy hrx hry hlx hly ho' hkk; go_wp2_with (fail)
     go_region_held3 (fun W => W.cell? ⟨o, i * 2, none⟩ = some (.slice r lx rk) /\ W.cell? ⟨o, i * 2 + 1, none⟩ = some (.int .i64 x.2) /\ W.cell? ⟨o, k * 2, none⟩ = some (.slice s ly sk) /\ W.cell? ⟨o, k * 2 + 1, none⟩ = some (.int .i64 y.2))
      (first | exact ⟨x0, x1, z0, z1⟩ | exact ⟨g3.keep x0, g3.keep x1, g3.keep z0, g3.keep z1⟩ | fail)
      (first | (go_at_call 122; (with_reducible refine (jY2z r s lx ly rk sk x y _ HLX.o HLY.o (IntsAt.ext (jZ1.at HX.o) (Ext.refl wr).drew) (IntsAt.ext (jZ1.at HY.o) (Ext.refl wr).drew)).mono ?_); rw [HR.o]; rintro e w4 ⟨rfl, hE4⟩; have g3 := (Ext.refl wr).drew.trans hE4) | fail)
     have E4 := hid (HE.o.trans g3); have HD4 := hid (HD.o.ext g3); have HU4 := hid (HU.o.ext g3); clear g3 x0 x1 z0 z1; by_cases hk0 : kk = 0
     ·have hb : (kk != 0) = false := by simp [hk0]
      have HN : Hid (depsTo K M i ++ rowTo K i (k + 1) = depsTo K M i ++ rowTo K i k) := hid (by rw [jW7, jY3n (by rw [HKK.o]; exact hk0), List.append_nil]); clear hk0; go_wp2; go_roundw
      case rel => exact ⟨k + 1, _, m, _, by omega, by omega, by go_num, rfl, by rw [HN.o]; exact HMM.o, by rw [HN.o]; exact HD4.o, HU4.o, E4.o⟩
      case measure => simp [intOf]; omega
     ·have hb : (kk != 0) = true := by simp [hk0]
      have HN : Hid (depsTo K M i ++ rowTo K i (k + 1) = (depsTo K M i ++ rowTo K i k) ++ [(i, k, kk)]) := hid (by rw [jW7, jY1I (by omega) (by rw [HKK.o]; exact hk0), HKK.o, List.append_assoc]); obtain ⟨L, hL⟩ : ∃ L, depsTo K M i ++ rowTo K i k = L := ⟨_, rfl⟩; rw [hL] at HMM HD4 HN; have HD5 := hid (HD4.o.ext ((Ext.refl w4).alloc (.cells #[.int .i64 (i : Int), .int .i64 (k : Int), .int .i64 kk] 191))); have ho := HD5.o; unfold jZu at ho; rw [HMM.o] at ho; have htag := jZx ho; have hs5 : w.heap.size + 1 <= w4.heap.size := by have := E4.o.size_le; have := HZ1.o; omega
      clear hk0 hL; go_wp2_with (at_builtin; refine wpList_append_own_at _ rfl (.tmp 36) (.tmp 41) 96 rfl (w.heap.size + 1) 191 j0 (.agg #[.int .i64 0, .int .i64 0, .int .i64 0]) 3 24 jY5O hj0 hj1 hj2 hj3 rfl (by decide) (.slice q0 m c0) m (flatD L) rfl ho ⟨w4.heap.size, 0, none⟩ 1 1 [.int .i64 (i : Int), .int .i64 (k : Int), .int .i64 kk] rfl rfl (jWG (by simp)) ?e2 ?e3 ?e4 ?e5 ?_)
      case e2 => intro u hu; simp at hu; rcases hu with rfl | rfl | rfl <;> rfl
      case e3 => unfold maxLen; omega
      case e4 => omega
      case e5 => simp; omega
      intro v2 w6 hown2 hgrow2 hnil2 hat2; obtain ⟨gq, dq, rfl, hdq⟩ := jZd hown2 (by first | exact hnil2 | exact fun e => by have := (hnil2.1 e).2; omega); have HL1 : Hid ((L ++ [(i, k, kk)]).length = m + 1) := hid (by rw [List.length_append, HMM.o]; rfl); have HRS : Hid (jZu (w.heap.size + 1) w6 (.slice (some ⟨gq, 0, none⟩) (m + 1) dq) (L ++ [(i, k, kk)])) := hid (by unfold jZu; rw [HL1.o, jY44]; exact hown2); have EW := hid ((E4.o.alloc (.cells #[.int .i64 (i : Int), .int .i64 (k : Int), .int .i64 kk] 191)).grown hgrow2 (fun b hb => by have := (ho.lt b hb).1; have := HZ1.o; omega)); have HU6 := hid (jZC.tag (HU4.o.ext ((Ext.refl w4).alloc (.cells #[.int .i64 (i : Int), .int .i64 (k : Int), .int .i64 kk] 191))) hgrow2 htag (by decide) (by decide)); clear hown2 hgrow2 hnil2 hat2 ho htag hs5; go_wp2; go_roundw
      case rel => exact ⟨k + 1, some ⟨gq, 0, none⟩, m + 1, dq, by omega, by omega, by go_num, rfl, by rw [HN.o]; exact HL1.o, by rw [HN.o]; exact HRS.o, HU6.o, EW.o⟩
      case measure => simp [intOf]; omega
    ·obtain rfl : k = M := by omega
     have HN := hid (jWm K k i); go_wp2; go_roundw
     case rel => exact ⟨i + 1, q0, m, c0, by omega, by go_num, rfl, by rw [HN.o]; exact HMM.o, by rw [HN.o]; exact HD.o, HU.o, HE.o⟩
     case measure => simp [intOf]; omega
  ·obtain rfl : i = M := by omega
   go_wp2; go_ret; exact ⟨⟨_, rfl, HD.o.weak (Nat.le_succ _)⟩, E1.o.trans HE.o⟩
end
end Go.Proofs.YtklehkkclojccaaGreat
