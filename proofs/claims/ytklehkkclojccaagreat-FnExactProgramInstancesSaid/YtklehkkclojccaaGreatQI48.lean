/- The texts E1 V7 E2, joined. No statement is proved here. -/
import Derived.Test.YtklehkkclojccaaGreatQI40
import Derived.Test.YtklehkkclojccaaGreatQI36
import Derived.Test.YtklehkkclojccaaGreatQI31
import Derived.OrdersHeld
import Derived.Test.YtklehkkclojccaaGreatQI37
import Derived.Test.YtklehkkclojccaaGreatQI12
import Derived.Deep.RegionHeld3
namespace Go.Proofs.YtklehkkclojccaaGreat
open Go.RowKit Go.Maps
end Go.Proofs.YtklehkkclojccaaGreat
namespace Go.Proofs.YtklehkkclojccaaGreat
open Go.RowKit
end Go.Proofs.YtklehkkclojccaaGreat
namespace Go.Proofs.YtklehkkclojccaaGreat
open Go.RowKit Go.Maps
def opF (k : Int) : Nat := if k = 4 then 281 else if k = 5 then 282 else 283
inductive FnR (C : Nat → Prop) (B : Nat) (w1 : World) (mo : Option Nat) (T : Int) (W : World) : Value → Ex → Prop
 | num (n : Int) (g : Nat) (c0 : C g) (hg : W.heap[g]? = some (.cells #[.int .i64 n] 340 (0, 0))) : FnR C B w1 mo T W (.func (.func 228) #[] #[.pointer (some ⟨g, 0, none⟩)]) (.mk 1 n ([], 0) ⟨#[]⟩ [] [])
 | idx (a b c d k : Int) (h : affValidB [a, b, c, d] k = true) (g : Nat) (c0 : C g) (hg : W.heap[g]? = some (.cells #[.int .i64 a, .int .i64 b, .int .i64 c, .int .i64 d, .int .i64 k] 342 (0, 0))) : FnR C B w1 mo T W (.func (.func 229) #[] #[.pointer (some ⟨g, 0, none⟩)]) (.mk 2 0 ([a, b, c, d], k) ⟨#[]⟩ [] [])
 | read (arr : ByteArray) (s : Value) (subs : List Aff) (h : LinsOwn B w1 s subs) (gl gr : Nat) (c0 : C gl) (c1 : C gr) (hl : W.heap[gl]? = some (.cells #[.map mo, .int .i64 T] 66 (0, 0))) (hr : W.heap[gr]? = some (.cells #[.string arr, s] 331 (0, 0))) : FnR C B w1 mo T W (.func (.func 231) #[] #[.pointer (some ⟨gl, 0, none⟩), .pointer (some ⟨gr, 0, none⟩)]) (.mk 3 0 ([], 0) arr subs [])
 | op (kind : Int) (fx fy : Value) (ex ey : Ex) (hk : kind = 4 ∨ kind = 5 ∨ kind = 6) (ga gx gy : Nat) (c0 : C ga) (c1 : C gx) (c2 : C gy) (ha : W.heap[ga]? = some (.cells #[.func (.func (opF kind)) #[] #[]] 275 (0, 0))) (hx : W.heap[gx]? = some (.cells #[fx] 264 (0, 0))) (hy : W.heap[gy]? = some (.cells #[fy] 264 (0, 0))) (ix : FnR C B w1 mo T W fx ex) (iy : FnR C B w1 mo T W fy ey) :
   FnR C B w1 mo T W (.func (.func 233) #[] #[.pointer (some ⟨ga, 0, none⟩), .pointer (some ⟨gx, 0, none⟩), .pointer (some ⟨gy, 0, none⟩)]) (.mk kind 0 ([], 0) ⟨#[]⟩ [] [ex, ey])
def KeepC (C : Nat → Prop) (W W' : World) : Prop := ∀ g, C g → g < W.heap.size → W'.heap[g]? = W.heap[g]?
theorem KeepC.of_ext {C : Nat → Prop} {W W' : World} (h : Ext W W') : KeepC C W W' := fun g _ hl => h.block g hl
theorem KeepC.blk {C : Nat → Prop} {W W' : World} (h : KeepC C W W') {g : Nat} (hc : C g) {o : Obj} (hg : W.heap[g]? = some o) : W'.heap[g]? = some o := (h g hc (lt_of_block hg)).trans hg
theorem FnR.keep {C : Nat → Prop} {B : Nat} {w1 : World} {mo : Option Nat} {T : Int} {W W' : World} {f : Value} {e : Ex} (h : FnR C B w1 mo T W f e) (hK : KeepC C W W') : FnR C B w1 mo T W' f e := by
 induction h with
 | num n g c0 hg => exact .num n g c0 (hK.blk c0 hg)
 | idx a b c d k h g c0 hg => exact .idx a b c d k h g c0 (hK.blk c0 hg)
 | read arr s subs h gl gr c0 c1 hl hr => exact .read arr s subs h gl gr c0 c1 (hK.blk c0 hl) (hK.blk c1 hr)
 | op kind fx fy ex ey hk ga gx gy c0 c1 c2 ha hx hy _ _ ihx ihy => exact .op kind fx fy ex ey hk ga gx gy c0 c1 c2 (hK.blk c0 ha) (hK.blk c1 hx) (hK.blk c2 hy) ihx ihy
theorem FnR.mono {C C' : Nat → Prop} {B : Nat} {w1 : World} {mo : Option Nat} {T : Int} {W : World} {f : Value} {e : Ex} (h : FnR C B w1 mo T W f e) (hC : ∀ g, C g → C' g) : FnR C' B w1 mo T W f e := by
 induction h with
 | num n g c0 hg => exact .num n g (hC _ c0) hg
 | idx a b c d k h g c0 hg => exact .idx a b c d k h g (hC _ c0) hg
 | read arr s subs h gl gr c0 c1 hl hr => exact .read arr s subs h gl gr (hC _ c0) (hC _ c1) hl hr
 | op kind fx fy ex ey hk ga gx gy c0 c1 c2 ha hx hy _ _ ihx ihy => exact .op kind fx fy ex ey hk ga gx gy (hC _ c0) (hC _ c1) (hC _ c2) ha hx hy ihx ihy
theorem FnR.ext {C : Nat → Prop} {B : Nat} {w1 : World} {mo : Option Nat} {T : Int} {W W' : World} {f : Value} {e : Ex} (h : FnR C B w1 mo T W f e) (hE : Ext W W') : FnR C B w1 mo T W' f e := h.keep (KeepC.of_ext hE)
theorem FnR.form {C : Nat → Prop} {B : Nat} {w1 : World} {mo : Option Nat} {T : Int} {W : World} {f : Value} {e : Ex} (h : FnR C B w1 mo T W f e) : ∃ k cap, f = .func (.func k) #[] cap := by cases h <;> exact ⟨_, _, rfl⟩
end Go.Proofs.YtklehkkclojccaaGreat
