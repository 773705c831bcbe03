/- BoxNest: the nest of a box, laid in memory of its own. -/
import Derived.Test.YtabkhiakekammabP3
import Derived.Test.YtabkhiakekammabA19
import Derived.Test.YtabkhiakekammabD6
import Derived.Maps.AppendAt
namespace Go.Proofs.Ytabkhiakekammab
open Go.RowKit

theorem PairsF.push {α : Type} {T : TypeId} {R : Nat → World → Value → Value → α → List Nat → Prop} (hR : ∀ {B w w' u0 u1 x F G}, R B w u0 u1 x F → Kp G w w' → (∀ y ∈ F, y ∉ G) → R B w' u0 u1 x F) {B n : Nat} {w w' : World} {v v' u0 u1 : Value} {xs : List α} {x : α} {F Fx : List Nat} {vs : List Value} {Fs : List (List Nat)}
    (hxn' : xs.length = n) (hl : Fs.length = xs.length) (hF : F = v.ownBlock.toList ++ Fs.flatten) (hn : F.Nodup)
    (he : ∀ i x, xs[i]? = some x → ∃ u0 u1 Fi, vs[i * 2]? = some u0 ∧ vs[i * 2 + 1]? = some u1 ∧ Fs[i]? = some Fi ∧ R B w u0 u1 x Fi) (hvl : vs.length = n * 2)
    (ho' : w'.ownsRow B T 2 v' (n + 1) (vs ++ [u0, u1])) (hg : w.grownBy w' v.ownBlock) (hat : v'.ownBlock = v.ownBlock ∨ v'.ownBlock = some w.heap.size)
    (hx : R B w u0 u1 x Fx) (hxn : Fx.Nodup) (hxd : ∀ y ∈ Fx, y ∉ F) (hFlt : ∀ y ∈ F, y < w.heap.size) (hxlt : ∀ y ∈ Fx, y < w.heap.size) :
    ∃ F', PairsF T R B w' v' (xs ++ [x]) F' ∧ ∀ y ∈ F', y < w'.heap.size := by
  rw [hF] at hn
  have hna := List.nodup_append.1 hn
  have hk : Kp v.ownBlock.toList w w' := Kp.of_grown hg
  have hvF : ∀ y ∈ v.ownBlock.toList, y ∈ F := fun y hy => by rw [hF]; exact List.mem_append_left _ hy
  have hfF : ∀ y ∈ Fs.flatten, y ∈ F := fun y hy => by rw [hF]; exact List.mem_append_right _ hy
  refine ⟨v'.ownBlock.toList ++ (Fs ++ [Fx]).flatten, ⟨vs ++ [u0, u1], Fs ++ [Fx], ?_, ?_, rfl, ?_, ?_⟩, ?_⟩
  · rw [List.length_append, hxn']; exact ho'
  · simp [hl]
  · rw [List.flatten_append, List.flatten_cons, List.flatten_nil, List.append_nil]
    refine List.nodup_append.2 ⟨?_, List.nodup_append.2 ⟨hna.2.1, hxn, fun a ha b hb e => hxd b hb (by rw [← e]; exact hfF a ha)⟩, ?_⟩
    · cases v'.ownBlock with
      | none => exact List.nodup_nil
      | some b => simp
    · intro a ha b hb e
      subst e
      rcases hat with h | h
      · rw [h] at ha
        rcases List.mem_append.1 hb with hb | hb
        · exact hna.2.2 a ha a hb rfl
        · exact hxd a hb (hvF a ha)
      · rw [h, Option.mem_toList] at ha
        have ha' : w.heap.size = a := Option.some.inj ha
        rcases List.mem_append.1 hb with hb | hb
        · have := hFlt a (hfF a hb); omega
        · have := hxlt a hb; omega
  · intro i y hi
    rcases Nat.lt_or_ge i xs.length with hlt | hge
    · rw [List.getElem?_append_left hlt] at hi
      obtain ⟨t0, t1, Fi, g0, g1, g2, g3⟩ := he i y hi
      refine ⟨t0, t1, Fi, by rw [List.getElem?_append_left (by omega)]; exact g0, by rw [List.getElem?_append_left (by omega)]; exact g1, by rw [List.getElem?_append_left (by omega)]; exact g2, hR g3 hk (fun z hz hz' => hna.2.2 z hz' z (mem_flat g2 hz) rfl)⟩
    · rw [List.getElem?_append_right hge] at hi
      have hi0 : i - xs.length = 0 := by
        rcases Nat.eq_zero_or_pos (i - xs.length) with h | h
        · exact h
        · rw [List.getElem?_eq_none (by simp; omega)] at hi; cases hi
      rw [hi0] at hi
      simp at hi
      subst hi
      have hin : i = n := by omega
      subst hin
      exact ⟨u0, u1, Fx, by rw [List.getElem?_append_right (by omega)]; simp [hvl], by rw [List.getElem?_append_right (by omega), hvl]; simp [show i * 2 + 1 - i * 2 = 1 by omega], by rw [List.getElem?_append_right (by omega)]; simp [hl, hxn'], hR hx hk (fun z hz hz' => hxd z hz (hvF z hz'))⟩
  · intro y hy
    rw [List.flatten_append, List.flatten_cons, List.flatten_nil, List.append_nil] at hy
    have hs := hk.size
    rcases List.mem_append.1 hy with hy | hy
    · rw [Option.mem_toList] at hy
      exact (ho'.lt y hy).2
    · rcases List.mem_append.1 hy with hy | hy
      · have := hFlt y (hfF y hy); omega
      · have := hxlt y hy; omega

/-- A side with one bound. -/
theorem AffsF.one {B g c : Nat} {w : World} {u0 : Value} {xs : List Int} {k : Int} {Fi : List Nat} (ho : w.ownsRow B 57 2 (.slice (some ⟨g, 0, none⟩) 1 c) 1 [u0, .int .i64 k]) (hi : IntsF B w u0 xs Fi) (hn : Fi.Nodup) (hg : g ∉ Fi) : AffsF B w (.slice (some ⟨g, 0, none⟩) 1 c) [(xs, k)] ([g] ++ Fi) := by
  refine ⟨[u0, .int .i64 k], [Fi], ho, rfl, by simp [Value.ownBlock], ?_, fun i x hx => ?_⟩
  · exact List.nodup_append.2 ⟨by simp, hn, fun a ha b hb e => by simp at ha; rw [ha] at e; exact hg (by rw [e]; exact hb)⟩
  · match i, hx with
    | 0, hx => simp at hx; subst hx; exact ⟨u0, _, Fi, rfl, rfl, rfl, hi, rfl⟩

theorem IntsF.weak {B B' : Nat} {w : World} {v : Value} {xs : List Int} {F : List Nat} (h : IntsF B w v xs F) (hB : B' ≤ B) : IntsF B' w v xs F := ⟨h.1.weak hB, h.2⟩
theorem AffsF.weak {B B' : Nat} {w : World} {v : Value} {xs : List Aff} {F : List Nat} (h : AffsF B w v xs F) (hB : B' ≤ B) : AffsF B' w v xs F := by
  obtain ⟨vs, Fs, ho, hl, hF, hn, he⟩ := h
  refine ⟨vs, Fs, ownsRow_weak ho hB, hl, hF, hn, fun i x hi => ?_⟩
  obtain ⟨u0, u1, Fi, h0, h1, h2, h3⟩ := he i x hi
  exact ⟨u0, u1, Fi, h0, h1, h2, h3.1.weak hB, h3.2⟩
theorem PairsF.ge {α : Type} {T : TypeId} {R : Nat → World → Value → Value → α → List Nat → Prop} (hR : ∀ {B w u0 u1 x F}, R B w u0 u1 x F → ∀ y ∈ F, B ≤ y) {B : Nat} {w : World} {v : Value} {xs : List α} {F : List Nat} (h : PairsF T R B w v xs F) : ∀ y ∈ F, B ≤ y := by
  obtain ⟨vs, Fs, ho, hl, hF, hn, he⟩ := h
  intro y hy
  rw [hF] at hy
  rcases List.mem_append.1 hy with hy | hy
  · rw [Option.mem_toList] at hy; exact (ho.lt y hy).1
  · obtain ⟨Fi, hFi, hyi⟩ := List.mem_flatten.1 hy
    obtain ⟨i, hi⟩ := List.mem_iff_getElem?.1 hFi
    obtain ⟨x, hx⟩ := get_some (xs := xs) (k := i) (by rw [← hl]; exact (List.getElem?_eq_some_iff.1 hi).1)
    obtain ⟨_, _, Fj, _, _, h2, h3⟩ := he i x hx
    rw [hi] at h2; cases h2
    exact hR h3 y hyi
theorem AffsF.ge {B : Nat} {w : World} {v : Value} {xs : List Aff} {F : List Nat} (h : AffsF B w v xs F) : ∀ y ∈ F, B ≤ y := PairsF.ge (fun h y hy => (h.1.lt y hy).1) h
theorem LoopsF.ge {B : Nat} {w : World} {v : Value} {xs : List Lp} {F : List Nat} (h : LoopsF B w v xs F) : ∀ y ∈ F, B ≤ y :=
  PairsF.ge (fun h y hy => by
    obtain ⟨F0, F1, e, _, h0, h1⟩ := h
    rw [e] at hy
    rcases List.mem_append.1 hy with hy | hy
    · exact h0.ge y hy
    · exact h1.ge y hy) h

def constA (k : Int) : Aff := ([0, 0, 0, 0], k)
def boxLp (k : Int) : Lp := ([constA 0], [constA k])
theorem chk_const {k : Int} (h0 : 0 ≤ k) (h1 : k ≤ 99) : chk [0, 0, 0, 0] k = ([0, 0, 0, 0], k, true) := by
  unfold chk
  rw [if_pos]
  simp [affValidB, withinB]; omega

set_option maxHeartbeats 1000000 in
theorem constantBound_any (k : Int) (w : World) (h0 : 0 ≤ k) (h1 : k ≤ 99) :
    Calls Try.prog 38 #[.int .i64 k] w fun e w' => ∃ g F, e = .returned (.slice (some ⟨g, 0, none⟩) 1 1) ∧ AffsF w.heap.size w' (.slice (some ⟨g, 0, none⟩) 1 1) [constA k] F ∧ (∀ y ∈ F, w.heap.size ≤ y ∧ y < w'.heap.size) ∧ Ext w w' := by
  have HC := Lib.hid (chk_const h0 h1)
  go_enter Try.func38, Try.ntmps38
  go_wp2_with (fail)
  refine (affine_any 0 0 0 0 k _).mono ?_
  rw [HC.out]
  rintro e w1 ⟨⟨p, c, rfl, hv⟩, hE⟩
  dsimp only at hv ⊢
  obtain ⟨gc, rfl, hg1, hg2⟩ := own4 (show w1.ownsRow w.heap.size 3 1 (.slice p 4 c) 4 _ from hv)
  have HE := Lib.hid hE; have HV := Lib.hid hv
  clear hE hv
  go_wp2
  go_ret
  have hE2 : Ext w1 ((w1.alloc (.cells #[.slice (some ⟨gc, 0, none⟩) 4 c, .int .i64 k] 57)).alloc (.cells #[.slice (some ⟨gc, 0, none⟩) 4 c, .int .i64 k] 57)) := ((Ext.refl w1).alloc _).alloc _
  have hs := HE.out.size_le
  have ho : ((w1.alloc (.cells #[.slice (some ⟨gc, 0, none⟩) 4 c, .int .i64 k] 57)).alloc (.cells #[.slice (some ⟨gc, 0, none⟩) 4 c, .int .i64 k] 57)).ownsRow w.heap.size 57 2 (.slice (some ⟨w1.heap.size + 1, 0, none⟩) 1 1) 1 [.slice (some ⟨gc, 0, none⟩) 4 c, .int .i64 k] := by
    have h := World.ownsRow_lit (base := w.heap.size) (e := 57) (size := 2) (w1.alloc (.cells #[.slice (some ⟨gc, 0, none⟩) 4 c, .int .i64 k] 57)) #[.slice (some ⟨gc, 0, none⟩) 4 c, .int .i64 k] 1 (by simp; omega) (by unfold maxLen; omega) rfl
    rw [World.size_alloc] at h
    exact h
  refine ⟨_, _, rfl, AffsF.one ho ⟨HV.out.ext hE2, rfl⟩ (by simp [Value.ownBlock]) (by simp [Value.ownBlock]; omega), ?_, HE.out.trans hE2⟩
  intro y hy
  simp [Value.ownBlock] at hy
  rcases hy with rfl | rfl
  · simp; omega
  · simp; omega
end Go.Proofs.Ytabkhiakekammab
