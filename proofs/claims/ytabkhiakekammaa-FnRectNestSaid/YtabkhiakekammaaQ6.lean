/- Draws: the arguments of NestValid, RectNest, NestPoints, NestSame. -/
import Derived.Test.YtabkhiakekammaaQ4
import Derived.Test.YtabkhiakekammaaQ5
namespace Go.Proofs.Ytabkhiakekammaa
open Go.RowKit

set_option maxHeartbeats 4000000 in
theorem DrawNestValid_any (p : Option Addr) (n c : Nat) (w : World) (hs : BytesAt w p n c) (hlt : ∀ b off, 0 < n → p = some ⟨b, off, none⟩ → b < w.heap.size) :
    Calls Try.prog 88 #[.slice p n c] w fun e w' => (∃ q m d, ∃ ls : List Lp, e = .returned (.slice (some ⟨q, 0, none⟩) m d) ∧ ls.length = m ∧ FourL 8 ls ∧ LoopsAt w' (.slice (some ⟨q, 0, none⟩) m d) ls) ∧ Ext w w' := by
  have HS := Lib.hid hs; have HL := Lib.hid hlt; clear hs hlt
  go_enter Try.func88, Try.ntmps88
  go_wp2_with (fail)
  refine (l16Open_any p n c w HS.out HL.out).mono ?_
  rintro e w1 ⟨g, rfl, hR, hE⟩
  have H1 := Lib.hid hR
  clear hR hE
  go_wp2_with (fail)
  refine (l2Nest_any w g 0 _ H1.out (by omega)).mono ?_
  rintro e w2 ⟨⟨q2, n2, c2, l2, rfl, hl2, hf2, hv2⟩, h4, h5⟩
  have H2 := Lib.hid h4; have HL2 := Lib.hid hl2; have HF2 := Lib.hid hf2; have HV2 := Lib.hid hv2.at
  clear h4 h5 H1 hl2 hf2 hv2
  go_wp2_with (fail)
  refine (l2Mutate_any w g 30 3 _ n2 c2 l2 _ H2.out (by omega) HL2.out HV2.out HF2.out (by omega)).mono ?_
  rintro e w3 ⟨⟨q3, n3, c3, l3, rfl, hl3, hf3, hv3⟩, h4, h5⟩
  have EV : Ext w w3 := by obtain ⟨_, _, _, _, _, _, _, _, h, _⟩ := h4; exact h
  have HEV := Lib.hid EV; have HL3 := Lib.hid hl3; have HF3 := Lib.hid hf3; have HV3 := Lib.hid hv3.at
  clear h4 h5 EV hl3 hf3 hv3 H2 HV2
  go_wp2
  go_ret
  exact ⟨⟨_, _, _, l3, rfl, HL3.out, HF3.out, HV3.out⟩, HEV.out⟩

set_option maxHeartbeats 4000000 in
theorem DrawRectNest_any (p : Option Addr) (n c : Nat) (w : World) (hs : BytesAt w p n c) (hlt : ∀ b off, 0 < n → p = some ⟨b, off, none⟩ → b < w.heap.size) :
    Calls Try.prog 34 #[.slice p n c] w fun e w' => (∃ q m d, ∃ ls : List Lp, e = .returned (.slice (some ⟨q, 0, none⟩) m d) ∧ ls.length = m ∧ FourL 8 ls ∧ LoopsAt w' (.slice (some ⟨q, 0, none⟩) m d) ls) ∧ Ext w w' := by
  have HS := Lib.hid hs; have HL := Lib.hid hlt; clear hs hlt
  go_enter Try.func34, Try.ntmps34
  go_wp2_with (fail)
  refine (DrawNestValid_any p n c w HS.out HL.out).mono ?_
  rintro e w3 ⟨⟨q3, n3, c3, l3, rfl, hl3, hf3, hv3⟩, hE⟩
  have HEV := Lib.hid hE; have HL3 := Lib.hid hl3; have HF3 := Lib.hid hf3; have HV3 := Lib.hid hv3
  clear hE hl3 hf3 hv3
  go_wp2
  go_ret
  exact ⟨⟨_, _, _, l3, rfl, HL3.out, HF3.out, HV3.out⟩, HEV.out⟩

set_option maxHeartbeats 4000000 in
theorem DrawNestPoints_any (p : Option Addr) (n c : Nat) (w : World) (hs : BytesAt w p n c) (hlt : ∀ b off, 0 < n → p = some ⟨b, off, none⟩ → b < w.heap.size) :
    Calls Try.prog 47 #[.slice p n c] w fun e w' => (∃ q m d, ∃ ls : List Lp, e = .returned (.slice (some ⟨q, 0, none⟩) m d) ∧ ls.length = m ∧ FourL 8 ls ∧ LoopsAt w' (.slice (some ⟨q, 0, none⟩) m d) ls) ∧ Ext w w' := by
  have HS := Lib.hid hs; have HL := Lib.hid hlt; clear hs hlt
  go_enter Try.func47, Try.ntmps47
  go_wp2_with (fail)
  refine (DrawNestValid_any p n c w HS.out HL.out).mono ?_
  rintro e w3 ⟨⟨q3, n3, c3, l3, rfl, hl3, hf3, hv3⟩, hE⟩
  have HEV := Lib.hid hE; have HL3 := Lib.hid hl3; have HF3 := Lib.hid hf3; have HV3 := Lib.hid hv3
  clear hE hl3 hf3 hv3
  go_wp2
  go_ret
  exact ⟨⟨_, _, _, l3, rfl, HL3.out, HF3.out, HV3.out⟩, HEV.out⟩

set_option maxHeartbeats 4000000 in
theorem DrawNestSame_any (p : Option Addr) (n c : Nat) (w : World) (hs : BytesAt w p n c) (hlt : ∀ b off, 0 < n → p = some ⟨b, off, none⟩ → b < w.heap.size) :
    Calls Try.prog 31 #[.slice p n c] w fun e w' => (∃ q m d q' m' d', ∃ ls ls' : List Lp, e = .returned (.tuple #[.slice (some ⟨q, 0, none⟩) m d, .slice (some ⟨q', 0, none⟩) m' d']) ∧ ls.length = m ∧ ls'.length = m' ∧ LoopsAt w' (.slice (some ⟨q, 0, none⟩) m d) ls ∧ LoopsAt w' (.slice (some ⟨q', 0, none⟩) m' d') ls') ∧ Ext w w' := by
  have HS := Lib.hid hs; have HL := Lib.hid hlt; clear hs hlt
  go_enter Try.func31, Try.ntmps31
  go_wp2_with (fail)
  refine (l16Open_any p n c w HS.out HL.out).mono ?_
  rintro e w1 ⟨g, rfl, hR, hE⟩
  have H1 := Lib.hid hR
  have hlg := hR.lt
  clear hR hE
  go_wp2_with (fail)
  refine (l2Nest_any w g 0 _ H1.out (by omega)).mono ?_
  rintro e w2 ⟨⟨q2, n2, c2, l2, rfl, hl2, hf2, hv2⟩, h4, h5⟩
  have H2 := Lib.hid h4; have HL2 := Lib.hid hl2; have HF2 := Lib.hid hf2; have HV2 := Lib.hid hv2
  clear h4 h5 H1 hl2 hf2 hv2
  go_wp2_with (fail)
  refine (pick_any w g 30 2 _ H2.out (by omega) (by omega)).mono ?_
  rintro e w3 ⟨⟨r, rfl, -⟩, h4, h5⟩
  have H3 := Lib.hid h4; have HV3 := Lib.hid (LoopsOwn.dr HV2.out h5 hlg)
  clear h4 h5 H2 HV2
  by_cases hr0 : r = 0
  · subst hr0
    go_wp2_with (fail)
    refine (l2Nest_any w g 31 _ H3.out (by omega)).mono ?_
    rintro e w4 ⟨⟨q4, n4, c4, l4, rfl, hl4, -, hv4⟩, h4, h5⟩
    have EV : Ext w w4 := by obtain ⟨_, _, _, _, _, _, _, _, h, _⟩ := h4; exact h
    have HEV := Lib.hid EV; have HL4 := Lib.hid hl4; have HV4 := Lib.hid hv4.at; have HV5 := Lib.hid (LoopsOwn.dr HV3.out h5 hlg).at
    clear h4 h5 EV hl4 hv4 H3 HV3
    go_wp2
    exact bodyPost_ret (v := .tuple #[.slice (some ⟨q2, 0, none⟩) n2 c2, .slice (some ⟨q4, 0, none⟩) n4 c4]) (by simp [results, Try.results31, go_sem]) rfl ⟨⟨_, _, _, _, _, _, l2, l4, rfl, HL2.out, HL4.out, HV5.out, HV4.out⟩, HEV.out⟩
  · have hb : ((r : Int) == 0) = false := by simp [hr0]
    clear hr0
    go_wp2_with (fail)
    refine (l2Mutate_any w g 31 3 _ n2 c2 l2 _ H3.out (by omega) HL2.out HV3.out.at HF2.out (by omega)).mono ?_
    rintro e w4 ⟨⟨q4, n4, c4, l4, rfl, hl4, hf4, hv4⟩, h4, h5⟩
    have H4 := Lib.hid h4; have HL4 := Lib.hid hl4; have HF4 := Lib.hid hf4; have HV4 := Lib.hid hv4.at; have HV5 := Lib.hid (LoopsOwn.dr HV3.out h5 hlg)
    clear h4 h5 hl4 hf4 hv4 H3 HV3
    go_wp2_with (fail)
    refine (l2Mutate_any w g 34 8 _ n4 c4 l4 _ H4.out (by omega) HL4.out HV4.out HF4.out (by omega)).mono ?_
    rintro e w5 ⟨⟨q6, n6, c6, l6, rfl, hl6, -, hv6⟩, h4, h5⟩
    have EV : Ext w w5 := by obtain ⟨_, _, _, _, _, _, _, _, h, _⟩ := h4; exact h
    have HEV := Lib.hid EV; have HL6 := Lib.hid hl6; have HV6 := Lib.hid hv6.at; have HV7 := Lib.hid (LoopsOwn.dr HV5.out h5 hlg).at
    clear h4 h5 EV hl6 hv6 H4 HV5 HV4
    go_wp2
    exact bodyPost_ret (v := .tuple #[.slice (some ⟨q2, 0, none⟩) n2 c2, .slice (some ⟨q6, 0, none⟩) n6 c6]) (by simp [results, Try.results31, go_sem]) rfl ⟨⟨_, _, _, _, _, _, l2, l6, rfl, HL2.out, HL6.out, HV7.out, HV6.out⟩, HEV.out⟩
end Go.Proofs.Ytabkhiakekammaa
