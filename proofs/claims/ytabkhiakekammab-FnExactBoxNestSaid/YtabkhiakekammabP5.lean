/- BoxNest, the program's. -/
import Derived.Test.YtabkhiakekammabP4
namespace Go.Proofs.Ytabkhiakekammab
open Go.RowKit

def okS (n : Int) : Bool := decide (0 ≤ n ∧ n ≤ 99)
def boxB (ns : List Int) : Bool := decide (ns.length ≤ 4) && ns.all okS
def boxL (ns : List Int) : List Lp := if boxB ns = true then ns.map boxLp else []
theorem boxB_no {ns : List Int} {k : Nat} {x : Int} (hx : ns[k]? = some x) (h : okS x = false) : boxB ns = false := by
  simp [boxB, all_false_of (p := okS) hx h]
theorem boxL_no {ns : List Int} (h : boxB ns = false) : boxL ns = [] := by unfold boxL; rw [if_neg (by rw [h]; decide)]
theorem boxL_yes {ns : List Int} (h : boxB ns = true) : boxL ns = ns.map boxLp := by unfold boxL; rw [if_pos h]
theorem LoopsF.nil (B : Nat) (w : World) : LoopsF B w (.slice none 0 0) [] [] := ⟨[], [], World.ownsRow_nil _ _ _ _, rfl, rfl, List.nodup_nil, fun i x hi => by simp at hi⟩
theorem PairsF.slice {α : Type} {T : TypeId} {R : Nat → World → Value → Value → α → List Nat → Prop} {B : Nat} {w : World} {v : Value} {xs : List α} {F : List Nat} (h : PairsF T R B w v xs F) : ∃ p c, v = .slice p xs.length c := by
  obtain ⟨vs, Fs, ho, _⟩ := h
  rcases ho.2 with ⟨rfl, hn0⟩ | ⟨g, cap, cur, e, _⟩
  · exact ⟨none, 0, by rw [hn0]⟩
  · exact ⟨_, cap, e⟩

/-- What BoxNest leaves. -/
def BoxRet (B : Nat) (w' : World) (e : Ending) (ns : List Int) : Prop := ∃ p c F, e = .returned (.tuple #[.slice p (boxL ns).length c, .bool (boxB ns)]) ∧ LoopsF B w' (.slice p (boxL ns).length c) (boxL ns) F ∧ ∀ y ∈ F, B ≤ y ∧ y < w'.heap.size
theorem BoxRet.no {B : Nat} {w' : World} {ns : List Int} (h : boxB ns = false) : BoxRet B w' (.returned (.tuple #[.slice none 0 0, .bool false])) ns :=
  ⟨none, 0, [], by rw [boxL_no h, h]; rfl, by rw [boxL_no h]; exact LoopsF.nil _ _, fun y hy => by simp at hy⟩

set_option maxRecDepth 100000 in
set_option maxHeartbeats 2000000 in
theorem BoxNest_any (s : Value) (ns : List Int) (w : World) (hs : IntsAt w s ns) :
    Calls Try.prog 22 #[s] w fun e w' => BoxRet w.heap.size w' e ns ∧ Ext w w' := by
  obtain ⟨i0, hi, hz0, hz1, hz2⟩ := info_parts infoLoop
  have HS := Lib.hid hs; clear hs
  obtain ⟨p, c, rfl, hm, hc⟩ := HS.out.get
  generalize hlen : ns.length = n at *
  have HL := Lib.hid hlen; have HC := Lib.hid hc; clear hlen hc
  go_enter Try.func22, Try.ntmps22
  go_wp2
  go_loopw [4, 9] (fun v i wr => ∃ k : Nat, k ≤ n ∧ k ≤ 4 ∧ i = .int .i64 k ∧ (ns.take k).all okS = true ∧ (∃ F, LoopsF w.heap.size wr v ((ns.take k).map boxLp) F ∧ ∀ y ∈ F, w.heap.size ≤ y ∧ y < wr.heap.size) ∧ Ext w wr) (fun _ i _ => n - (intOf i).toNat)
  case atStart => exact ⟨0, by omega, by omega, rfl, by simp, ⟨[], by simpa using LoopsF.nil _ _, fun y hy => by simp at hy⟩, Ext.refl w⟩
  case round =>
    obtain ⟨k, hk, hk4, rfl, hall, ⟨F, hF, hFr⟩, hE⟩ := hrel
    have htl : ((ns.take k).map boxLp).length = k := by rw [List.length_map, List.length_take, HL.out]; omega
    obtain ⟨pv, cv, rfl⟩ := PairsF.slice hF
    have HTL := Lib.hid htl
    rw [htl] at hF ⊢
    clear htl
    have HA := Lib.hid hall; have HF := Lib.hid hF; have HFr := Lib.hid hFr; clear hall hF hFr
    by_cases hlt : k < n
    · obtain ⟨x, hx⟩ := get_some (xs := ns) (k := k) (by rw [HL.out]; exact hlt)
      obtain ⟨b, off, rfl, hck, hbl⟩ := HC.out k x hx
      have hck' := (hE.cells.1 _ (off + k) hbl).trans hck
      have HX := Lib.hid hx; clear hx hck
      by_cases h0 : x < 0
      · have hd : decide (x < 0) = true := by simpa using h0
        have hno : boxB ns = false := boxB_no HX.out (by simp [okS]; omega)
        have HNO := Lib.hid hno; have HE := Lib.hid hE; clear hno hE h0
        go_wp2
        exact bodyPost_ret (v := .tuple #[.slice none 0 0, .bool false]) (by simp [results, Try.results22, go_sem]) rfl ⟨BoxRet.no HNO.out, HE.out⟩
      · have hd : decide (x < 0) = false := by simpa using h0
        by_cases h9 : 99 < x
        · have hd9 : decide (99 < x) = true := by simpa using h9
          have hno : boxB ns = false := boxB_no HX.out (by simp [okS]; omega)
          have HNO := Lib.hid hno; have HE := Lib.hid hE; clear hno hE h0 h9
          go_wp2
          exact bodyPost_ret (v := .tuple #[.slice none 0 0, .bool false]) (by simp [results, Try.results22, go_sem]) rfl ⟨BoxRet.no HNO.out, HE.out⟩
        · have hd9 : decide (99 < x) = false := by simpa using h9
          have hx0 : 0 ≤ x := by omega
          have hx9 : x ≤ 99 := by omega
          by_cases h4 : k = 4
          · subst h4
            have hno : boxB ns = false := by
              have : ¬ ns.length ≤ 4 := by rw [HL.out]; omega
              simp [boxB, this]
            have HNO := Lib.hid hno; have HE := Lib.hid hE; clear hno hE h0 h9
            go_wp2
            exact bodyPost_ret (v := .tuple #[.slice none 0 0, .bool false]) (by simp [results, Try.results22, go_sem]) rfl ⟨BoxRet.no HNO.out, HE.out⟩
          · have hd4 : ((k : Int) == 4) = false := by simp; omega
            have HE := Lib.hid hE; clear hE h0 h9
            go_wp2_with (fail)
            refine (constantBound_any 0 _ (by omega) (by omega)).mono ?_
            rintro e w1 ⟨g1, F1, rfl, hf1, hr1, hE1⟩
            have hw1 := hE1.size_le
            have HE1 := Lib.hid hE1; have H1 := Lib.hid hf1; have HR1 := Lib.hid hr1; clear hE1 hf1 hr1
            go_wp2_with (fail)
            refine (constantBound_any x _ hx0 hx9).mono ?_
            rintro e w2 ⟨g2, F2, rfl, hf2, hr2, hE2⟩
            have hw2 := hE2.size_le
            have hwr := HE.out.size_le
            have HE3 := Lib.hid ((HE1.out.trans hE2).alloc (.cells #[.slice (some ⟨g1, 0, none⟩) 1 1, .slice (some ⟨g2, 0, none⟩) 1 1] 48))
            have hE23 : Ext w1 (w2.alloc (.cells #[.slice (some ⟨g1, 0, none⟩) 1 1, .slice (some ⟨g2, 0, none⟩) 1 1] 48)) := hE2.alloc _
            have H13 : AffsF wr.heap.size (w2.alloc (.cells #[.slice (some ⟨g1, 0, none⟩) 1 1, .slice (some ⟨g2, 0, none⟩) 1 1] 48)) (.slice (some ⟨g1, 0, none⟩) 1 1) [constA 0] F1 := AffsF.kp H1.out (Kp.of_ext (F := []) hE23) (by simp)
            have H23 : AffsF w1.heap.size (w2.alloc (.cells #[.slice (some ⟨g1, 0, none⟩) 1 1, .slice (some ⟨g2, 0, none⟩) 1 1] 48)) (.slice (some ⟨g2, 0, none⟩) 1 1) [constA x] F2 := AffsF.kp hf2 (Kp.of_ext (F := []) ((Ext.refl w2).alloc _)) (by simp)
            have hnd : (F1 ++ F2).Nodup := by
              obtain ⟨_, _, _, _, _, n1, _⟩ := H1.out
              obtain ⟨_, _, _, _, _, n2, _⟩ := hf2
              exact List.nodup_append.2 ⟨n1, n2, fun a ha b hb e => by have := (HR1.out a ha).2; have := (hr2 b hb).1; omega⟩
            have HLF : Hid (LoopF w.heap.size (w2.alloc (.cells #[.slice (some ⟨g1, 0, none⟩) 1 1, .slice (some ⟨g2, 0, none⟩) 1 1] 48)) (.slice (some ⟨g1, 0, none⟩) 1 1) (.slice (some ⟨g2, 0, none⟩) 1 1) (boxLp x) (F1 ++ F2)) := Lib.hid ⟨F1, F2, rfl, hnd, AffsF.weak H13 (by omega), AffsF.weak H23 (by omega)⟩
            have HR2 := Lib.hid hr2
            clear H13 H23 hf2 hr2 hE2 hE23
            have HF3 := Lib.hid (LoopsF.kp HF.out (Kp.of_ext (F := []) HE3.out) (by simp))
            clear HF
            obtain ⟨vs, Fs, ho, hl, hFe, hFn, he⟩ := HF3.out
            have HHE := Lib.hid he; have HFE := Lib.hid hFe; have HFN := Lib.hid hFn; have HHL := Lib.hid hl
            clear he hFe hFn hl
            rw [HTL.out] at ho
            have hvl := ho.1
            have hbase : w.heap.size ≤ w2.heap.size + 1 := by omega
            go_wp2_with (at_builtin; refine wpList_append_own_at _ rfl (.tmp 24) (.tmp 29) 25 rfl w.heap.size 48 i0 (.agg #[.slice none 0 0, .slice none 0 0]) 2 48 Try.underlying25 hi hz0 hz1 hz2 rfl (by decide) (.slice pv k cv) k vs rfl ho ⟨w2.heap.size, 0, none⟩ 1 1 [.slice (some ⟨g1, 0, none⟩) 1 1, .slice (some ⟨g2, 0, none⟩) 1 1] rfl rfl ?c1 ?c2 ?c3 ?c4 ?c5 ?_)
            case c1 =>
              intro q u hq
              match q, hq with
              | 0, hq => simp at hq; subst hq; simp [Addr.add]
              | 1, hq => simp at hq; subst hq; simp [Addr.add, go_sem]
            case c2 => intro u hu; simp at hu; rcases hu with rfl | rfl <;> rfl
            case c3 => unfold maxLen; omega
            case c4 => omega
            case c5 => simp; omega
            intro v' w4 hown' hgrow _ hat
            have hd1 : ∀ y ∈ F1 ++ F2, y ∉ F := by
              intro y hy hyF
              have h1 := (HFr.out y hyF).2
              rcases List.mem_append.1 hy with h | h
              · have := (HR1.out y h).1; omega
              · have := (HR2.out y h).1; omega
            have hd2 : ∀ y ∈ F, y < (w2.alloc (.cells #[.slice (some ⟨g1, 0, none⟩) 1 1, .slice (some ⟨g2, 0, none⟩) 1 1] 48)).heap.size := by
              intro y hy
              have := (HFr.out y hy).2
              rw [World.size_alloc]; omega
            have hd3 : ∀ y ∈ F1 ++ F2, y < (w2.alloc (.cells #[.slice (some ⟨g1, 0, none⟩) 1 1, .slice (some ⟨g2, 0, none⟩) 1 1] 48)).heap.size := by
              intro y hy
              rw [World.size_alloc]
              rcases List.mem_append.1 hy with h | h
              · have := (HR1.out y h).2; omega
              · have := (HR2.out y h).2; omega
            have hd4 : (F1 ++ F2).Nodup := by obtain ⟨_, _, e, h, _⟩ := HLF.out; exact h
            have hat' : v'.ownBlock = (Value.slice pv k cv).ownBlock ∨ v'.ownBlock = some (w2.alloc (.cells #[.slice (some ⟨g1, 0, none⟩) 1 1, .slice (some ⟨g2, 0, none⟩) 1 1] 48)).heap.size := by rw [World.size_alloc]; exact hat
            obtain ⟨F', hF', hF'lt⟩ := PairsF.push (T := 48) (R := LoopF) (fun h hk hd => LoopF.kp h hk hd) HTL.out HHL.out HFE.out HFN.out HHE.out hvl hown' hgrow hat' HLF.out hd4 hd1 hd2 hd3
            have hEw4 : Ext w w4 := (HE.out.trans HE3.out).grown hgrow (fun b hb => (ho.lt b hb).1)
            have htk : (ns.take k).map boxLp ++ [boxLp x] = (ns.take (k + 1)).map boxLp := by rw [take_next HX.out, List.map_append]; rfl
            rw [htk] at hF'
            have hge : ∀ y ∈ F', w.heap.size ≤ y := fun y hy => LoopsF.ge hF' y hy
            have HF4 := Lib.hid hF'; have HLT := Lib.hid hF'lt; have HE4 := Lib.hid hEw4; have HGE := Lib.hid hge
            clear hd1 hd2 hd3 hd4 hat' hF' hF'lt hEw4 htk hge hown' hgrow hat ho HLF HF3 HHE HFE HFN HHL hvl
            go_wp2
            go_roundw
            case rel => exact ⟨k + 1, by omega, by omega, by go_num, all_take_next HX.out HA.out (by simp [okS]; omega), ⟨F', HF4.out, fun y hy => ⟨HGE.out y hy, HLT.out y hy⟩⟩, HE4.out⟩
            case measure => simp [intOf]; omega
    · have e : k = n := by omega
      subst e
      have hyes : boxB ns = true := by
        have h := all_take_end (xs := ns) (k := k) (by rw [HL.out]; omega) HA.out
        simp [boxB, HL.out, hk4, h]
      have hF := HF.out
      rw [List.take_of_length_le (by rw [HL.out]; omega), ← boxL_yes hyes] at hF
      have hlb : (boxL ns).length = k := by rw [boxL_yes hyes, List.length_map]; exact HL.out
      have HFF := Lib.hid hF; have HY := Lib.hid hyes; have HLB := Lib.hid hlb; have HE := Lib.hid hE; clear hF hyes hlb hE
      go_wp2
      exact bodyPost_ret (v := .tuple #[.slice pv k cv, .bool true]) (by simp [results, Try.results22, go_sem]) rfl ⟨⟨pv, cv, F, by rw [HLB.out, HY.out], by rw [HLB.out]; exact HFF.out, HFr.out⟩, HE.out⟩
end Go.Proofs.Ytabkhiakekammab
