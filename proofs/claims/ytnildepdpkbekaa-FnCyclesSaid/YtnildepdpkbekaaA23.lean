/- The cursor from which the model draws: that it gives some number, and turns its own block alone. -/
import Derived.Test.YtnildepdpkbekaaA22
namespace Go.Proofs.Ytnildepdpkbekaa
open Go.RowKit
set_option linter.unusedSimpArgs false

/-- nothing that was there has turned but block b -/
structure Only (b : Nat) (W W' : World) : Prop where
  os : W'.os = W.os
  tape : W'.tape = W.tape
  output : W'.output = W.output
  size : W.heap.size ≤ W'.heap.size
  block : ∀ k, k < W.heap.size → k ≠ b → W'.heap[k]? = W.heap[k]?
theorem Only.refl (b : Nat) (W : World) : Only b W W := ⟨rfl, rfl, rfl, Nat.le_refl _, fun _ _ _ => rfl⟩
theorem Only.trans {b : Nat} {A B C : World} (h : Only b A B) (k : Only b B C) : Only b A C :=
  ⟨k.os.trans h.os, k.tape.trans h.tape, k.output.trans h.output, Nat.le_trans h.size k.size, fun i hi hne => (k.block i (Nat.lt_of_lt_of_le hi h.size) hne).trans (h.block i hi hne)⟩
theorem Only.of_below {b : Nat} {W W' : World} (h : Below W.heap.size W W') : Only b W W' := ⟨h.os, h.tape, h.output, h.size, fun k hk _ => h.block k hk⟩
theorem Only.below {b : Nat} {W W' : World} (h : Only b W W') (hb : b ≤ W.heap.size) : Below b W W' := ⟨h.os, h.tape, h.output, h.size, fun k hk => h.block k (by omega) (by omega)⟩
theorem Only.set {b : Nat} (W : World) (o : Nat) (v : Value) : Only b W (W.setCell ⟨b, o, none⟩ v) :=
  ⟨rfl, rfl, rfl, by simp, fun k _ hne => Below.heap_setCell W _ v k hne⟩
theorem Only.drewN {b : Nat} {W W' : World} (h : Only b W W') (n : Nat) : Only b W (W'.drewN n) := h.trans ⟨rfl, rfl, rfl, Nat.le_refl _, fun _ _ _ => rfl⟩
theorem RowAt.only {W W' : World} {b c : Nat} {T : TypeId} {cs : Array Value} (H : RowAt W c T cs) (h : Only b W W') (hne : c ≠ b) : RowAt W' c T cs := (h.block c H.lt hne).trans H
theorem RowAt.drewN {W : World} {c : Nat} {T : TypeId} {cs : Array Value} (H : RowAt W c T cs) (n : Nat) : RowAt (W.drewN n) c T cs := H

/-- the bytes that the cursor reads -/
def CodeAt (W : World) (b : Nat) (a : Option Addr) (len : Nat) : Prop :=
  len = 0 ∨ ∃ xb xo, ∃ z : Nat → Nat, a = some ⟨xb, xo, none⟩ ∧ xb ≠ b ∧ ∀ i, i < len → z i < 256 ∧ W.cell? ⟨xb, xo + i, none⟩ = some (.int .u8 (z i))
theorem CodeAt.only {W W' : World} {b : Nat} {a : Option Addr} {len : Nat} (H : CodeAt W b a len) (h : Only b W W') : CodeAt W' b a len := by
  rcases H with h0 | ⟨xb, xo, z, ha, hne, hz⟩
  · exact .inl h0
  · refine .inr ⟨xb, xo, z, ha, hne, fun i hi => ⟨(hz i hi).1, ?_⟩⟩
    have hlt := block_lt_of_cell (hz i hi).2
    rw [World.cell?_of_block (w := W) (h.block xb hlt hne)]
    exact (hz i hi).2
/-- the cursor's block: it has been asked at most m times -/
def Cur (W : World) (b : Nat) (a : Option Addr) (len cap m : Nat) : Prop :=
  CodeAt W b a len ∧ len ≤ 1048576 ∧ ∃ (p : Nat) (s : Int), p ≤ m ∧ RowAt W b 72 #[.slice a len cap, .int .i64 p, .int .u64 s]
theorem Cur.more {W : World} {b : Nat} {a : Option Addr} {len cap m m' : Nat} (H : Cur W b a len cap m) (h : m ≤ m') : Cur W b a len cap m' := by
  obtain ⟨h1, h2, p, s, h3, h4⟩ := H
  exact ⟨h1, h2, p, s, by omega, h4⟩
theorem Cur.below {W W' : World} {b : Nat} {a : Option Addr} {len cap m : Nat} (H : Cur W b a len cap m) (h : Below W.heap.size W W') : Cur W' b a len cap m := by
  obtain ⟨h1, h2, p, s, h3, h4⟩ := H
  exact ⟨h1.only (Only.of_below h), h2, p, s, h3, h4.kept h⟩

/-- a number below n is returned, and the cursor goes on -/
def SomeNum (n : Nat) (b : Nat) (a : Option Addr) (len cap m : Nat) (w : World) (e : Ending) (w' : World) : Prop :=
  ∃ x : Nat, x < n ∧ e = .returned (.int .i64 x) ∧ Cur w' b a len cap m ∧ Only b w w'

theorem next_end {b : Nat} {a : Option Addr} {len cap m p : Nat} {s : Int} {w : World} (hc : RowAt w b 72 #[.slice a len cap, .int .i64 p, .int .u64 s]) (hcode : CodeAt w b a len) (hlen : len ≤ 1048576) (hp : p ≤ m)
    (N N2 : Nat) (s2 : Int) (x : Nat) (hx : x < 256) : SomeNum 256 b a len cap (m + 1) w (.returned (.int .i64 x)) ((((w.drewN N).setCell ⟨b, 1, none⟩ (.int .i64 ((p : Int) + 1))).setCell ⟨b, 2, none⟩ (.int .u64 s2)).drewN N2) := by
  have hO : Only b w ((((w.drewN N).setCell ⟨b, 1, none⟩ (.int .i64 ((p : Int) + 1))).setCell ⟨b, 2, none⟩ (.int .u64 s2)).drewN N2) :=
    Only.drewN (((Only.drewN (Only.refl b w) N).trans (Only.set (b := b) _ 1 _)).trans (Only.set (b := b) _ 2 _)) N2
  exact ⟨x, hx, rfl, ⟨hcode.only hO, hlen, p + 1, s2, by omega, (((hc.drewN N).set 1 (.int .i64 ((p : Int) + 1))).set 2 (.int .u64 s2)).drewN N2⟩, hO⟩

set_option maxRecDepth 100000 in
set_option maxHeartbeats 1000000 in
theorem next_in (b : Nat) (xb xo : Nat) (z : Nat → Nat) (len cap m p : Nat) (s : Int) (hm : m ≤ 1000000) (hp : p ≤ m) (hlen : len ≤ 1048576) (hne : xb ≠ b) (w : World)
    (hz : ∀ i, i < len → z i < 256 ∧ w.cell? ⟨xb, xo + i, none⟩ = some (.int .u8 (z i))) (hlt : p < len)
    (hc : RowAt w b 72 #[.slice (some ⟨xb, xo, none⟩) len cap, .int .i64 p, .int .u64 s]) :
    Calls Try.prog 86 #[.pointer (some ⟨b, 0, none⟩)] w (SomeNum 256 b (some ⟨xb, xo, none⟩) len cap (m + 1) w) := by
  have c0 := hc.cell 0 rfl
  have c1 := hc.cell 1 rfl
  have c2 := hc.cell 2 rfl
  have f1 := hc.free 1
  have f2 := hc.free 2
  have hlt' : (p : Int) < len := by omega
  have hp2 : (p : Int) + 1 ≤ len := by omega
  have hzp := (hz p hlt).2
  have hz2 := (hz p hlt).1
  have HC := Lib.hid hc
  have HCODE := Lib.hid (show CodeAt w b (some ⟨xb, xo, none⟩) len from .inr ⟨xb, xo, z, rfl, hne, hz⟩)
  clear hc hz
  go_enter Try.func86, Try.ntmps86
  go_wp2
  go_quiet (fail)
  go_wp2
  go_quiet (fail)
  go_wp2
  go_quiet (fail)
  go_wp2
  go_ret
  exact next_end HC.out HCODE.out hlen hp _ _ _ (z p) hz2

theorem u64_small (x : Int) : ∃ y : Nat, y < 256 ∧ wrap64 (bits .and .u64 x 255) = (y : Int) := by
  have h : (BitVec.ofInt 64 x &&& BitVec.ofInt 64 255).toNat ≤ 255 := by
    rw [BitVec.toNat_and]; exact Nat.le_trans Nat.and_le_right (by decide)
  have e : bits .and .u64 x 255 = ((BitVec.ofInt 64 x &&& BitVec.ofInt 64 255).toNat : Int) := by
    show IntKind.u64.wrap ((BitVec.ofInt 64 x &&& BitVec.ofInt 64 255).toNat : Int) = _
    exact IntWalk.u64_in _ ⟨by omega, by omega⟩
  exact ⟨_, Nat.lt_of_le_of_lt h (by omega), by rw [e]; exact IntWalk.wrap64_in _ ⟨by omega, by omega⟩⟩
theorem next_end' {b : Nat} {a : Option Addr} {len cap m p : Nat} {s : Int} {w : World} (hc : RowAt w b 72 #[.slice a len cap, .int .i64 p, .int .u64 s]) (hcode : CodeAt w b a len) (hlen : len ≤ 1048576) (hp : p ≤ m)
    (N N2 : Nat) (s2 : Int) (v : Int) (hv : ∃ y : Nat, y < 256 ∧ v = (y : Int)) : SomeNum 256 b a len cap (m + 1) w (.returned (.int .i64 v)) ((((w.drewN N).setCell ⟨b, 1, none⟩ (.int .i64 ((p : Int) + 1))).setCell ⟨b, 2, none⟩ (.int .u64 s2)).drewN N2) := by
  obtain ⟨y, hy, rfl⟩ := hv
  exact next_end hc hcode hlen hp N N2 s2 y hy

set_option maxRecDepth 100000 in
set_option maxHeartbeats 1000000 in
theorem next_out (b : Nat) (a : Option Addr) (len cap m p : Nat) (s : Int) (hm : m ≤ 1000000) (hp : p ≤ m) (hlen : len ≤ 1048576) (w : World) (hcode : CodeAt w b a len) (hge : len ≤ p)
    (hc : RowAt w b 72 #[.slice a len cap, .int .i64 p, .int .u64 s]) :
    Calls Try.prog 86 #[.pointer (some ⟨b, 0, none⟩)] w (SomeNum 256 b a len cap (m + 1) w) := by
  have c0 := hc.cell 0 rfl
  have c1 := hc.cell 1 rfl
  have c2 := hc.cell 2 rfl
  have f1 := hc.free 1
  have f2 := hc.free 2
  have hge' : (len : Int) ≤ p := by omega
  have hp2 : (len : Int) < (p : Int) + 1 := by omega
  have HC := Lib.hid hc
  have HCODE := Lib.hid hcode
  clear hc hcode
  go_enter Try.func86, Try.ntmps86
  go_wp2
  go_quiet (fail)
  go_wp2
  go_quiet (fail)
  go_wp2
  go_ret
  exact next_end' HC.out HCODE.out hlen hp _ _ _ _ (u64_small _)

theorem next_any (b : Nat) (a : Option Addr) (len cap m : Nat) (hm : m ≤ 1000000) (w : World) (hc : Cur w b a len cap m) :
    Calls Try.prog 86 #[.pointer (some ⟨b, 0, none⟩)] w (SomeNum 256 b a len cap (m + 1) w) := by
  obtain ⟨hcode, hlen, p, s, hp, hr⟩ := hc
  by_cases hlt : p < len
  · rcases hcode with h0 | ⟨xb, xo, z, rfl, hne, hz⟩
    · omega
    · exact next_in b xb xo z len cap m p s hm hp hlen hne w hz hlt hr
  · exact next_out b a len cap m p s hm hp hlen w hcode (by omega) hr

set_option maxRecDepth 100000 in
set_option maxHeartbeats 1000000 in
theorem pick_any (b : Nat) (a : Option Addr) (len cap m n : Nat) (hm : m ≤ 900000) (hn : 1 ≤ n) (hn2 : n ≤ 65536) (w : World) (hc : Cur w b a len cap m) :
    Calls Try.prog 55 #[.pointer (some ⟨b, 0, none⟩), .int .i64 n] w (SomeNum n b a len cap (m + 2) w) := by
  have HC := Lib.hid hc
  clear hc
  by_cases h1 : n ≤ 1
  · have h1' : (n : Int) ≤ 1 := by omega
    go_enter Try.func55, Try.ntmps55
    go_wp2
    go_ret
    exact ⟨0, by omega, rfl, HC.out.more (by omega), Only.refl _ _⟩
  · have h1' : (1 : Int) < n := by omega
    by_cases h2 : 200 < n
    · have h2' : (200 : Int) < n := by omega
      go_enter Try.func55, Try.ntmps55
      go_wp2_with fail
      refine (next_any b a len cap m (by omega) _ HC.out).mono ?_
      rintro e w1 ⟨x, hx, rfl, hc1, ho1⟩
      have HC1 := Lib.hid hc1
      have HO1 := Lib.hid ho1
      have hxi : (x : Int) < 256 := by omega
      clear hc1 ho1
      go_wp2_with fail
      refine (next_any b a len cap (m + 1) (by omega) _ HC1.out).mono ?_
      rintro e w2 ⟨y, hy, rfl, hc2, ho2⟩
      have HC2 := Lib.hid hc2
      have HO2 := Lib.hid (HO1.out.trans ho2)
      have hyi : (y : Int) < 256 := by omega
      clear hc2 ho2
      have hrem : (((x : Int) * 256 + y) % n) = (((x * 256 + y) % n : Nat) : Int) := by push_cast; rfl
      go_wp2
      go_ret
      exact ⟨(x * 256 + y) % n, Nat.mod_lt _ (by omega), by first | rfl | exact congrArg _ (congrArg _ hrem), HC2.out.more (by omega), HO2.out⟩
    · have h2' : (n : Int) ≤ 200 := by omega
      go_enter Try.func55, Try.ntmps55
      go_wp2_with fail
      refine (next_any b a len cap m (by omega) _ HC.out).mono ?_
      rintro e w1 ⟨x, hx, rfl, hc1, ho1⟩
      have HC1 := Lib.hid hc1
      have HO1 := Lib.hid ho1
      have hxi : (x : Int) < 256 := by omega
      clear hc1 ho1
      go_wp2
      go_ret
      exact ⟨x % n, Nat.mod_lt _ (by omega), by first | rfl | (simp), HC1.out.more (by omega), HO1.out⟩
end Go.Proofs.Ytnildepdpkbekaa
