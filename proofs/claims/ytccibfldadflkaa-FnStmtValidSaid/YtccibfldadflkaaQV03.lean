/- The texts D1, joined. No statement is proved here. -/
import Derived.Test.YtccibfldadflkaaQV02
import Derived.BigQuiet
import Derived.Deep.QuietTactic
/- The drawing helpers: the source of bytes, and a number from it. -/
namespace Go.Proofs.Ytccibfldadflkaa
open Go.RowKit

/-- The value v is a slice of bytes that reads in w. -/
def BytesAt (w : World) (p : Option Addr) (n c : Nat) : Prop :=
  n ≤ c ∧ n ≤ 9223372036854775807 ∧ ∀ i, i < n → ∃ b off, ∃ x : Nat, p = some ⟨b, off, none⟩ ∧ w.cell? ⟨b, off + i, none⟩ = some (.int .u8 x) ∧ x < 256
theorem BytesAt.ext {w w' : World} {p : Option Addr} {n c : Nat} (h : BytesAt w p n c) (hb : Ext w w') : BytesAt w' p n c := by
  refine ⟨h.1, h.2.1, fun i hi => ?_⟩
  obtain ⟨b, off, x, hp, hc, hx⟩ := h.2.2 i hi
  exact ⟨b, off, x, hp, hb.keep hc, hx⟩

/-- The source lies at block g, made since W; it has been asked at most K times. -/
def Rd (W : World) (g : Nat) (K : Nat) (w : World) : Prop :=
  ∃ p n c, BytesAt w p n c ∧ ∃ k : Nat, k ≤ K ∧ w.heap[g]? = some (.cells #[.slice p n c, .int .i64 k] 137 (0, 0)) ∧ W.heap.size ≤ g ∧ Ext W w ∧ (∀ b off, 0 < n → p = some ⟨b, off, none⟩ → b < g)
theorem Rd.mono {W : World} {g K K' : Nat} {w : World} (h : Rd W g K w) (hk : K ≤ K') : Rd W g K' w := by
  obtain ⟨p, n, c, hb, k, h1, h2, h3, h4, h5⟩ := h
  exact ⟨p, n, c, hb, k, by omega, h2, h3, h4, h5⟩
theorem BytesAt.grown {w w' : World} {g : Nat} {p : Option Addr} {n c : Nat} (h : BytesAt w p n c) (hg : w.grownBy w' (some g)) (hp : ∀ b off, 0 < n → p = some ⟨b, off, none⟩ → b < g) : BytesAt w' p n c := by
  refine ⟨h.1, h.2.1, fun i hi => ?_⟩
  obtain ⟨b, off, x, e, hc, hx⟩ := h.2.2 i hi
  refine ⟨b, off, x, e, ?_, hx⟩
  have hb := hp b off (by omega) e
  have := hg.block b (World.block_lt_of_cell? w _ hc) (fun e => by have := Option.some.inj e; omega)
  exact (World.cell?_of_block this).trans hc
/-- The source stays where new blocks are made. -/
theorem Rd.ext {W : World} {g K : Nat} {w w' : World} (h : Rd W g K w) (hE : Ext w w') : Rd W g K w' := by
  obtain ⟨p, n, c, hb, k, h1, h2, h3, h4, h5⟩ := h
  exact ⟨p, n, c, hb.ext hE, k, h1, hE.blk h2, h3, h4.trans hE, h5⟩
/-- The source stays where another block is written. -/
theorem Rd.set {W : World} {g K : Nat} {w : World} (h : Rd W g K w) {b o : Nat} (hb : g < b) (u : Value) : Rd W g K (w.setCell ⟨b, o, none⟩ u) := by
  obtain ⟨p, n, c, hb', k, h1, h2, h3, h4, h5⟩ := h
  refine ⟨p, n, c, ⟨hb'.1, hb'.2.1, fun i hi => ?_⟩, k, h1, (Below.heap_setCell _ _ _ _ (show g ≠ b by omega)).trans h2, h3, h4.setAt (by omega) _, h5⟩
  obtain ⟨b', off, x, e, hc, hx⟩ := hb'.2.2 i hi
  refine ⟨b', off, x, e, ?_, hx⟩
  have := h5 b' off (by omega) e
  exact (World.cell?_of_block (Below.heap_setCell _ _ _ _ (show b' ≠ b by omega))).trans hc

theorem Ext.grownRd {W w w' : World} {g : Nat} (h : Ext W w) (hg : w.grownBy w' (some g)) (hB : W.heap.size ≤ g) : Ext W w' :=
  h.grown hg (fun k e => by have := Option.some.inj e; omega)

theorem blk2_set1'' {W : World} {g : Nat} {a b : Value} {t : TypeId} (h : W.heap[g]? = some (.cells #[a, b] t (0, 0))) (c : Value) : (W.setCell ⟨g, 1, none⟩ c).heap[g]? = some (.cells #[a, c] t (0, 0)) := by
  rw [heap_setCell_same W g 1 _ _ c h]; rfl
theorem grown_set (w : World) (g o : Nat) (v : Value) : w.grownBy (w.setCell ⟨g, o, none⟩ v) (some g) :=
  ⟨rfl, rfl, rfl, by simp, fun k _ hk => heap_setCell_other w ⟨g, o, none⟩ k v (fun e => hk (by simp [e]))⟩

set_option maxHeartbeats 1000000 in
theorem l16Open_any (p : Option Addr) (n c : Nat) (w : World) (hs : BytesAt w p n c) (hlt : ∀ b off, 0 < n → p = some ⟨b, off, none⟩ → b < w.heap.size) :
    Calls Try.prog 43 #[.slice p n c] w fun e w' => ∃ g, e = .returned (.pointer (some ⟨g, 0, none⟩)) ∧ Rd w g 0 w' ∧ Ext w w' := by
  have HS := Lib.hid hs
  obtain ⟨h1, h2, h3⟩ := hs
  have HL := Lib.hid hlt; clear hlt
  by_cases h : n ≤ 2000
  · have hb : decide ((2000 : Int) < n) = false := by simp; omega
    clear h3
    go_enter Try.func43, Try.ntmps43
    go_wp2
    go_ret
    exact ⟨_, rfl, ⟨p, n, c, HS.out.ext ((Ext.refl w).alloc _), 0, Nat.le_refl _, blk_at rfl, Nat.le_refl _, (Ext.refl w).alloc _, HL.out⟩, (Ext.refl w).alloc _⟩
  · have hb : decide ((2000 : Int) < n) = true := by simp; omega
    have hc : (2000 : Int) ≤ (c : Int) := by omega
    obtain ⟨b, off, x, rfl, hc0, _⟩ := h3 0 (by omega)
    have HS' : Hid (BytesAt w (some ⟨b, off, none⟩) 2000 c) := Lib.hid ⟨by omega, by omega, fun i hi => HS.out.2.2 i (by omega)⟩
    clear h3 hc0
    go_enter Try.func43, Try.ntmps43
    go_wp2
    go_ret
    exact ⟨_, rfl, ⟨_, 2000, c, HS'.out.ext ((Ext.refl w).alloc _), 0, Nat.le_refl _, blk_at rfl, Nat.le_refl _, (Ext.refl w).alloc _, fun b' off' _ e => HL.out b' off' (by omega) e⟩, (Ext.refl w).alloc _⟩

theorem xor_nn (a b : Nat) (ha : a < 4294967296) (hb : b < 4294967296) : ∃ z : Nat, z < 4294967296 ∧ bits .xor .i64 (a : Int) (b : Int) = (z : Int) := by
  refine ⟨a ^^^ b, Nat.xor_lt_two_pow (n := 32) ha hb, ?_⟩
  have hx : a ^^^ b < 4294967296 := Nat.xor_lt_two_pow (n := 32) ha hb
  have e : BitVec.ofInt 64 (a : Int) ^^^ BitVec.ofInt 64 (b : Int) = BitVec.ofNat 64 (a ^^^ b) := by
    rw [BitVec.ofInt_natCast, BitVec.ofInt_natCast, BitVec.ofNat_xor]
  have h2 : (BitVec.ofNat 64 (a ^^^ b)).toNat = a ^^^ b := by rw [BitVec.toNat_ofNat]; omega
  have hw : IntKind.i64.wrap ((a ^^^ b : Nat) : Int) = ((a ^^^ b : Nat) : Int) := by simp [IntKind.wrap, IntKind.bits, IntKind.signed]; omega
  show IntKind.i64.wrap ((BitVec.ofInt 64 (a : Int) ^^^ BitVec.ofInt 64 (b : Int)).toNat : Int) = _
  rw [e, h2, hw]
end Go.Proofs.Ytccibfldadflkaa
