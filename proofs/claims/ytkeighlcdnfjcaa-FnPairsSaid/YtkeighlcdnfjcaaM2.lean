/- The cursor from which the model draws: that it gives some number, and turns its own block alone. What the model draws: some texts, some numbers. What the laws are handed to ask with. -/
import Derived.Test.YtkeighlcdnfjcaaM1
import Derived.OpenShut
namespace Go.Proofs.Ytkeighlcdnfjcaa
open Go.RowKit
set_option linter.unusedSimpArgs false

/-- nothing that was there has turned but block b -/
structure Only (b : Nat) (W W' : World) : Prop where
  os : W'.os = W.os
  tape : W'.tape = W.tape
  output : W'.output = W.output
  size : W.heap.size ≤ W'.heap.size
  block : ∀ k, k < W.heap.size → k ≠ b → W'.heap[k]? = W.heap[k]?
theorem Only.refl (b : Nat) (W : World) : Only b W W := ⟨rfl, rfl, rfl, Nat.le_refl _, fun _ _ _ => rfl⟩
theorem Only.trans {b : Nat} {A B C : World} (h : Only b A B) (k : Only b B C) : Only b A C :=
  ⟨k.os.trans h.os, k.tape.trans h.tape, k.output.trans h.output, Nat.le_trans h.size k.size, fun i hi hne => (k.block i (Nat.lt_of_lt_of_le hi h.size) hne).trans (h.block i hi hne)⟩
theorem Only.of_below {b : Nat} {W W' : World} (h : Below W.heap.size W W') : Only b W W' := ⟨h.os, h.tape, h.output, h.size, fun k hk _ => h.block k hk⟩
theorem Only.below {b : Nat} {W W' : World} (h : Only b W W') (hb : b ≤ W.heap.size) : Below b W W' := ⟨h.os, h.tape, h.output, h.size, fun k hk => h.block k (by omega) (by omega)⟩
theorem Only.set {b : Nat} (W : World) (o : Nat) (v : Value) : Only b W (W.setCell ⟨b, o, none⟩ v) :=
  ⟨rfl, rfl, rfl, by simp, fun k _ hne => Below.heap_setCell W _ v k hne⟩
theorem Only.drewN {b : Nat} {W W' : World} (h : Only b W W') (n : Nat) : Only b W (W'.drewN n) := h.trans ⟨rfl, rfl, rfl, Nat.le_refl _, fun _ _ _ => rfl⟩
theorem RowAt.only {W W' : World} {b c : Nat} {T : TypeId} {cs : Array Value} (H : RowAt W c T cs) (h : Only b W W') (hne : c ≠ b) : RowAt W' c T cs := (h.block c H.lt hne).trans H
theorem RowAt.drewN {W : World} {c : Nat} {T : TypeId} {cs : Array Value} (H : RowAt W c T cs) (n : Nat) : RowAt (W.drewN n) c T cs := H

/-- the bytes that the cursor reads -/
def CodeAt (W : World) (b : Nat) (a : Option Addr) (len : Nat) : Prop :=
  len = 0 ∨ ∃ xb xo, ∃ z : Nat → Nat, a = some ⟨xb, xo, none⟩ ∧ xb ≠ b ∧ ∀ i, i < len → z i < 256 ∧ W.cell? ⟨xb, xo + i, none⟩ = some (.int .u8 (z i))
theorem CodeAt.only {W W' : World} {b : Nat} {a : Option Addr} {len : Nat} (H : CodeAt W b a len) (h : Only b W W') : CodeAt W' b a len := by
  rcases H with h0 | ⟨xb, xo, z, ha, hne, hz⟩
  · exact .inl h0
  · refine .inr ⟨xb, xo, z, ha, hne, fun i hi => ⟨(hz i hi).1, ?_⟩⟩
    have hlt := block_lt_of_cell (hz i hi).2
    rw [World.cell?_of_block (w := W) (h.block xb hlt hne)]
    exact (hz i hi).2
/-- the cursor's block: it has been asked at most m times -/
def Cur (W : World) (b : Nat) (a : Option Addr) (len cap m : Nat) : Prop :=
  CodeAt W b a len ∧ len ≤ 1048576 ∧ ∃ (p : Nat) (s : Int), p ≤ m ∧ RowAt W b 50 #[.slice a len cap, .int .i64 p, .int .u64 s]
theorem Cur.more {W : World} {b : Nat} {a : Option Addr} {len cap m m' : Nat} (H : Cur W b a len cap m) (h : m ≤ m') : Cur W b a len cap m' := by
  obtain ⟨h1, h2, p, s, h3, h4⟩ := H
  exact ⟨h1, h2, p, s, by omega, h4⟩
theorem Cur.below {W W' : World} {b : Nat} {a : Option Addr} {len cap m : Nat} (H : Cur W b a len cap m) (h : Below W.heap.size W W') : Cur W' b a len cap m := by
  obtain ⟨h1, h2, p, s, h3, h4⟩ := H
  exact ⟨h1.only (Only.of_below h), h2, p, s, h3, h4.kept h⟩

/-- a number below n is returned, and the cursor goes on -/
def SomeNum (n : Nat) (b : Nat) (a : Option Addr) (len cap m : Nat) (w : World) (e : Ending) (w' : World) : Prop :=
  ∃ x : Nat, x < n ∧ e = .returned (.int .i64 x) ∧ Cur w' b a len cap m ∧ Only b w w'

theorem next_end {b : Nat} {a : Option Addr} {len cap m p : Nat} {s : Int} {w : World} (hc : RowAt w b 50 #[.slice a len cap, .int .i64 p, .int .u64 s]) (hcode : CodeAt w b a len) (hlen : len ≤ 1048576) (hp : p ≤ m)
    (N N2 : Nat) (s2 : Int) (x : Nat) (hx : x < 256) : SomeNum 256 b a len cap (m + 1) w (.returned (.int .i64 x)) ((((w.drewN N).setCell ⟨b, 1, none⟩ (.int .i64 ((p : Int) + 1))).setCell ⟨b, 2, none⟩ (.int .u64 s2)).drewN N2) := by
  have hO : Only b w ((((w.drewN N).setCell ⟨b, 1, none⟩ (.int .i64 ((p : Int) + 1))).setCell ⟨b, 2, none⟩ (.int .u64 s2)).drewN N2) :=
    Only.drewN (((Only.drewN (Only.refl b w) N).trans (Only.set (b := b) _ 1 _)).trans (Only.set (b := b) _ 2 _)) N2
  exact ⟨x, hx, rfl, ⟨hcode.only hO, hlen, p + 1, s2, by omega, (((hc.drewN N).set 1 (.int .i64 ((p : Int) + 1))).set 2 (.int .u64 s2)).drewN N2⟩, hO⟩

set_option maxRecDepth 100000 in
set_option maxHeartbeats 1000000 in
theorem next_in (b : Nat) (xb xo : Nat) (z : Nat → Nat) (len cap m p : Nat) (s : Int) (hm : m ≤ 1000000) (hp : p ≤ m) (hlen : len ≤ 1048576) (hne : xb ≠ b) (w : World)
    (hz : ∀ i, i < len → z i < 256 ∧ w.cell? ⟨xb, xo + i, none⟩ = some (.int .u8 (z i))) (hlt : p < len)
    (hc : RowAt w b 50 #[.slice (some ⟨xb, xo, none⟩) len cap, .int .i64 p, .int .u64 s]) :
    Calls Try.prog 86 #[.pointer (some ⟨b, 0, none⟩)] w (SomeNum 256 b (some ⟨xb, xo, none⟩) len cap (m + 1) w) := by
  have c0 := hc.cell 0 rfl
  have c1 := hc.cell 1 rfl
  have c2 := hc.cell 2 rfl
  have f1 := hc.free 1
  have f2 := hc.free 2
  have hlt' : (p : Int) < len := by omega
  have hp2 : (p : Int) + 1 ≤ len := by omega
  have hzp := (hz p hlt).2
  have hz2 := (hz p hlt).1
  have HC := Lib.hid hc
  have HCODE := Lib.hid (show CodeAt w b (some ⟨xb, xo, none⟩) len from .inr ⟨xb, xo, z, rfl, hne, hz⟩)
  clear hc hz
  go_enter Try.func86, Try.ntmps86
  go_wp2
  go_quiet (fail)
  go_wp2
  go_quiet (fail)
  go_wp2
  go_quiet (fail)
  go_wp2
  go_ret
  exact next_end HC.out HCODE.out hlen hp _ _ _ (z p) hz2

theorem u64_small (x : Int) : ∃ y : Nat, y < 256 ∧ wrap64 (bits .and .u64 x 255) = (y : Int) := by
  have h : (BitVec.ofInt 64 x &&& BitVec.ofInt 64 255).toNat ≤ 255 := by
    rw [BitVec.toNat_and]; exact Nat.le_trans Nat.and_le_right (by decide)
  have e : bits .and .u64 x 255 = ((BitVec.ofInt 64 x &&& BitVec.ofInt 64 255).toNat : Int) := by
    show IntKind.u64.wrap ((BitVec.ofInt 64 x &&& BitVec.ofInt 64 255).toNat : Int) = _
    exact IntWalk.u64_in _ ⟨by omega, by omega⟩
  exact ⟨_, Nat.lt_of_le_of_lt h (by omega), by rw [e]; exact IntWalk.wrap64_in _ ⟨by omega, by omega⟩⟩
theorem next_end' {b : Nat} {a : Option Addr} {len cap m p : Nat} {s : Int} {w : World} (hc : RowAt w b 50 #[.slice a len cap, .int .i64 p, .int .u64 s]) (hcode : CodeAt w b a len) (hlen : len ≤ 1048576) (hp : p ≤ m)
    (N N2 : Nat) (s2 : Int) (v : Int) (hv : ∃ y : Nat, y < 256 ∧ v = (y : Int)) : SomeNum 256 b a len cap (m + 1) w (.returned (.int .i64 v)) ((((w.drewN N).setCell ⟨b, 1, none⟩ (.int .i64 ((p : Int) + 1))).setCell ⟨b, 2, none⟩ (.int .u64 s2)).drewN N2) := by
  obtain ⟨y, hy, rfl⟩ := hv
  exact next_end hc hcode hlen hp N N2 s2 y hy

set_option maxRecDepth 100000 in
set_option maxHeartbeats 1000000 in
theorem next_out (b : Nat) (a : Option Addr) (len cap m p : Nat) (s : Int) (hm : m ≤ 1000000) (hp : p ≤ m) (hlen : len ≤ 1048576) (w : World) (hcode : CodeAt w b a len) (hge : len ≤ p)
    (hc : RowAt w b 50 #[.slice a len cap, .int .i64 p, .int .u64 s]) :
    Calls Try.prog 86 #[.pointer (some ⟨b, 0, none⟩)] w (SomeNum 256 b a len cap (m + 1) w) := by
  have c0 := hc.cell 0 rfl
  have c1 := hc.cell 1 rfl
  have c2 := hc.cell 2 rfl
  have f1 := hc.free 1
  have f2 := hc.free 2
  have hge' : (len : Int) ≤ p := by omega
  have hp2 : (len : Int) < (p : Int) + 1 := by omega
  have HC := Lib.hid hc
  have HCODE := Lib.hid hcode
  clear hc hcode
  go_enter Try.func86, Try.ntmps86
  go_wp2
  go_quiet (fail)
  go_wp2
  go_quiet (fail)
  go_wp2
  go_ret
  exact next_end' HC.out HCODE.out hlen hp _ _ _ _ (u64_small _)

theorem next_any (b : Nat) (a : Option Addr) (len cap m : Nat) (hm : m ≤ 1000000) (w : World) (hc : Cur w b a len cap m) :
    Calls Try.prog 86 #[.pointer (some ⟨b, 0, none⟩)] w (SomeNum 256 b a len cap (m + 1) w) := by
  obtain ⟨hcode, hlen, p, s, hp, hr⟩ := hc
  by_cases hlt : p < len
  · rcases hcode with h0 | ⟨xb, xo, z, rfl, hne, hz⟩
    · omega
    · exact next_in b xb xo z len cap m p s hm hp hlen hne w hz hlt hr
  · exact next_out b a len cap m p s hm hp hlen w hcode (by omega) hr

set_option maxRecDepth 100000 in
set_option maxHeartbeats 1000000 in
theorem pick_any (b : Nat) (a : Option Addr) (len cap m n : Nat) (hm : m ≤ 900000) (hn : 1 ≤ n) (hn2 : n ≤ 65536) (w : World) (hc : Cur w b a len cap m) :
    Calls Try.prog 74 #[.pointer (some ⟨b, 0, none⟩), .int .i64 n] w (SomeNum n b a len cap (m + 2) w) := by
  have HC := Lib.hid hc
  clear hc
  by_cases h1 : n ≤ 1
  · have h1' : (n : Int) ≤ 1 := by omega
    go_enter Try.func74, Try.ntmps74
    go_wp2
    go_ret
    exact ⟨0, by omega, rfl, HC.out.more (by omega), Only.refl _ _⟩
  · have h1' : (1 : Int) < n := by omega
    by_cases h2 : 200 < n
    · have h2' : (200 : Int) < n := by omega
      go_enter Try.func74, Try.ntmps74
      go_wp2_with fail
      refine (next_any b a len cap m (by omega) _ HC.out).mono ?_
      rintro e w1 ⟨x, hx, rfl, hc1, ho1⟩
      have HC1 := Lib.hid hc1
      have HO1 := Lib.hid ho1
      have hxi : (x : Int) < 256 := by omega
      clear hc1 ho1
      go_wp2_with fail
      refine (next_any b a len cap (m + 1) (by omega) _ HC1.out).mono ?_
      rintro e w2 ⟨y, hy, rfl, hc2, ho2⟩
      have HC2 := Lib.hid hc2
      have HO2 := Lib.hid (HO1.out.trans ho2)
      have hyi : (y : Int) < 256 := by omega
      clear hc2 ho2
      have hrem : (((x : Int) * 256 + y) % n) = (((x * 256 + y) % n : Nat) : Int) := by push_cast; rfl
      go_wp2
      go_ret
      exact ⟨(x * 256 + y) % n, Nat.mod_lt _ (by omega), by first | rfl | exact congrArg _ (congrArg _ hrem), HC2.out.more (by omega), HO2.out⟩
    · have h2' : (n : Int) ≤ 200 := by omega
      go_enter Try.func74, Try.ntmps74
      go_wp2_with fail
      refine (next_any b a len cap m (by omega) _ HC.out).mono ?_
      rintro e w1 ⟨x, hx, rfl, hc1, ho1⟩
      have HC1 := Lib.hid hc1
      have HO1 := Lib.hid ho1
      have hxi : (x : Int) < 256 := by omega
      clear hc1 ho1
      go_wp2
      go_ret
      exact ⟨x % n, Nat.mod_lt _ (by omega), by first | rfl | (simp), HC1.out.more (by omega), HO1.out⟩
end Go.Proofs.Ytkeighlcdnfjcaa
namespace Go.Proofs.Ytkeighlcdnfjcaa
open Go.RowKit
set_option linter.unusedSimpArgs false

def SomeBool (b : Nat) (a : Option Addr) (len cap m : Nat) (w : World) (e : Ending) (w' : World) : Prop :=
  ∃ t : Bool, e = .returned (.bool t) ∧ Cur w' b a len cap m ∧ Only b w w'
/-- a number that meets P is returned, and the cursor goes on -/
def SomeInt (P : Int → Prop) (b : Nat) (a : Option Addr) (len cap m : Nat) (w : World) (e : Ending) (w' : World) : Prop :=
  ∃ x : Int, P x ∧ e = .returned (.int .i64 x) ∧ Cur w' b a len cap m ∧ Only b w w'
/-- a text of no more than n bytes is returned, and the cursor goes on -/
def SomeText (n : Nat) (b : Nat) (a : Option Addr) (len cap m : Nat) (w : World) (e : Ending) (w' : World) : Prop :=
  ∃ s : ByteArray, s.size ≤ n ∧ e = .returned (.string s) ∧ Cur w' b a len cap m ∧ Only b w w'

set_option maxRecDepth 100000 in
set_option maxHeartbeats 1000000 in
theorem one_any (b : Nat) (a : Option Addr) (len cap m n : Nat) (hm : m ≤ 900000) (hn : 1 ≤ n) (hn2 : n ≤ 65536) (w : World) (hc : Cur w b a len cap m) :
    Calls Try.prog 44 #[.pointer (some ⟨b, 0, none⟩), .int .i64 n] w (SomeBool b a len cap (m + 2) w) := by
  have HC := Lib.hid hc
  clear hc
  go_enter Try.func44, Try.ntmps44
  go_wp2_with fail
  refine (pick_any b a len cap m n hm hn hn2 _ HC.out).mono ?_
  rintro e w1 ⟨x, hx, rfl, hc1, ho1⟩
  have HC1 := Lib.hid hc1
  have HO1 := Lib.hid ho1
  clear hc1 ho1
  go_wp2
  go_ret
  exact ⟨_, rfl, HC1.out, HO1.out⟩

set_option maxRecDepth 100000 in
set_option maxHeartbeats 1000000 in
theorem among_any (P : Int → Prop) (b : Nat) (a : Option Addr) (len cap m n lb lcap : Nat) (L : Nat → Int) (hm : m ≤ 900000) (hn : 1 ≤ n) (hn2 : n ≤ 65536) (w : World) (hc : Cur w b a len cap m) (hne : lb ≠ b)
    (hL : ∀ i, i < n → P (L i) ∧ w.cell? ⟨lb, i, none⟩ = some (.int .i64 (L i))) :
    Calls Try.prog 82 #[.pointer (some ⟨b, 0, none⟩), .slice (some ⟨lb, 0, none⟩) n lcap] w (SomeInt P b a len cap (m + 2) w) := by
  have HC := Lib.hid hc
  have HL := Lib.hid hL
  clear hc hL
  go_enter Try.func82, Try.ntmps82
  go_wp2_with fail
  refine (pick_any b a len cap m n hm hn hn2 _ HC.out).mono ?_
  rintro e w1 ⟨x, hx, rfl, hc1, ho1⟩
  have HC1 := Lib.hid hc1
  have HO1 := Lib.hid ho1
  have c1 : w1.cell? ⟨lb, x, none⟩ = some (.int .i64 (L x)) := by
    have hlt := block_lt_of_cell (HL.out x hx).2
    rw [World.cell?_of_block (w := w) (ho1.block lb hlt hne)]
    exact (HL.out x hx).2
  have hxi : (x : Int) < n := by omega
  clear hc1 ho1
  go_wp2
  go_ret
  exact ⟨L x, (HL.out x hx).1, rfl, HC1.out, HO1.out⟩

theorem list_cells (W : World) (l : List Int) (T : TypeId) (i : Nat) (hi : i < l.length) : (W.alloc (.cells (l.map (Value.int .i64)).toArray T)).cell? ⟨W.heap.size, i, none⟩ = some (.int .i64 (l.getD i 0)) := by
  rw [World.cell?_alloc_at _ _ _ _ rfl]
  simp [hi]
theorem Cur.lt {W : World} {b : Nat} {a : Option Addr} {len cap m : Nat} (H : Cur W b a len cap m) : b < W.heap.size := by
  obtain ⟨_, _, p, s, _, h⟩ := H
  exact h.lt

set_option maxRecDepth 100000 in
set_option maxHeartbeats 1000000 in
theorem stage_draw (b : Nat) (a : Option Addr) (len cap m : Nat) (hm : m ≤ 900000) (w : World) (hc : Cur w b a len cap m) :
    Calls Try.prog 72 #[.pointer (some ⟨b, 0, none⟩)] w (SomeInt (fun n => 3 ≤ n ∧ n ≤ 8) b a len cap (m + 2) w) := by
  have HC := Lib.hid hc
  clear hc
  go_enter Try.func72, Try.ntmps72
  have hlt := HC.out.lt
  go_wp2_with fail
  refine (among_any (fun n => 3 ≤ n ∧ n ≤ 8) b a len cap m 9 w.heap.size 9 (fun i => [4, 4, 5, 5, 6, 6, 3, 7, 8].getD i 0) hm (by omega) (by omega) _ (HC.out.below ((Below.refl _ _).alloc (Nat.le_refl _) _)) (by omega) (fun i hi => ⟨?_, list_cells w [4, 4, 5, 5, 6, 6, 3, 7, 8] _ i hi⟩)).mono ?_
  · have : i = 0 ∨ i = 1 ∨ i = 2 ∨ i = 3 ∨ i = 4 ∨ i = 5 ∨ i = 6 ∨ i = 7 ∨ i = 8 := by omega
    rcases this with rfl | rfl | rfl | rfl | rfl | rfl | rfl | rfl | rfl <;> decide
  rintro e w1 ⟨x, hx, rfl, hc1, ho1⟩
  have HC1 := Lib.hid hc1
  have HO1 := Lib.hid (Only.trans (Only.of_below (b := b) ((Below.refl w.heap.size w).alloc (Nat.le_refl _) _)) ho1)
  have HX := Lib.hid hx
  clear hc1 ho1 hx
  go_wp2
  go_ret
  exact ⟨x, HX.out, rfl, HC1.out, HO1.out⟩

set_option maxRecDepth 100000 in
set_option maxHeartbeats 1000000 in
theorem row_draw (b : Nat) (a : Option Addr) (len cap m n : Nat) (hm : m ≤ 900000) (h3 : 3 ≤ n) (h8 : n ≤ 8) (w : World) (hc : Cur w b a len cap m) :
    Calls Try.prog 71 #[.pointer (some ⟨b, 0, none⟩), .int .i64 n] w (SomeText 8 b a len cap (m + 2) w) := by
  have HC := Lib.hid hc
  have hf := fact_le h8
  have hfp := fact_pos n
  clear hc
  go_enter Try.func71, Try.ntmps71
  go_wp2_with fail
  refine (l1Fact_any n h8 _).mono ?_
  rintro e w' ⟨rfl, rfl⟩
  go_wp2_with fail
  refine (pick_any b a len cap m (fact n) hm hfp (by omega) _ HC.out).mono ?_
  rintro e w1 ⟨x, hx, rfl, hc1, ho1⟩
  have HC1 := Lib.hid hc1
  have HO1 := Lib.hid ho1
  clear hc1 ho1
  go_wp2_with fail
  refine (sRowOf_yes n x h3 h8 hx _).mono ?_
  rintro e w2 ⟨rfl, hb2⟩
  have HC2 := Lib.hid (HC1.out.below hb2)
  have HO2 := Lib.hid (HO1.out.trans (Only.of_below hb2))
  clear hb2
  go_wp2
  go_ret
  exact ⟨_, by rw [strOf_size]; exact h8, rfl, HC2.out, HO2.out⟩

set_option maxRecDepth 100000 in
set_option maxHeartbeats 1000000 in
theorem spoilt_draw (b : Nat) (a : Option Addr) (len cap m : Nat) (t : ByteArray) (ht : t.size ≤ 8) (hm : m ≤ 800000) (w : World) (hc : Cur w b a len cap m) :
    Calls Try.prog 73 #[.pointer (some ⟨b, 0, none⟩), .string t, .string ⟨#[49, 50, 57, 48]⟩] w (SomeText 10 b a len cap (m + 20) w) := by
  have HC := Lib.hid hc
  clear hc
  go_enter Try.func73, Try.ntmps73
  go_wp2_with fail
  refine (pick_any b a len cap m 2 (by omega) (by omega) (by omega) _ HC.out).mono ?_
  rintro e w1 ⟨x, hx, rfl, hc1, ho1⟩
  have HC1 := Lib.hid hc1
  have HO1 := Lib.hid ho1
  clear hc1 ho1
  go_wp2_with fail
  go_loopg [1, 7, 8, 9] (1 + x) (fun q t n _ _ wr => ∃ (s : ByteArray) (mm : Nat), q ≤ 2 ∧ s.size + q ≤ 10 ∧ mm + 6 * q ≤ m + 18 ∧ t = .string s ∧ n = .int .i64 q ∧ Cur wr b a len cap mm ∧ Only b w wr)
  case atStart => exact ⟨t, m + 2, by omega, by omega, by omega, rfl, by go_num, HC1.out, HO1.out⟩
  case round =>
    obtain ⟨s, mm, hq2, hsq, hmm, rfl, rfl, hc, ho⟩ := hrel
    have HC2 := Lib.hid hc
    have HO2 := Lib.hid ho
    clear hc ho HC1 HO1
    by_cases hgo : 0 < gk ∧ 0 < s.size
    · obtain ⟨hg, hs0⟩ := hgo
      obtain ⟨g', hg'⟩ : ∃ g', gk = g' + 1 := ⟨gk - 1, by omega⟩
      subst hg'
      have hs10 : s.size ≤ 9 := by omega
      have hs0i : (0 : Int) < s.size := by omega
      clear hg
      go_wp2_with fail
      refine (pick_any b a len cap mm s.size (by omega) hs0 (by omega) _ HC2.out).mono ?_
      rintro e w2 ⟨i, hi, rfl, hc3, ho3⟩
      have HC3 := Lib.hid hc3
      have HO3 := Lib.hid (HO2.out.trans ho3)
      clear hc3 ho3
      go_wp2_with fail
      refine (pick_any b a len cap (mm + 2) 4 (by omega) (by omega) (by omega) _ HC3.out).mono ?_
      rintro e w3 ⟨c, hc, rfl, hc4, ho4⟩
      have HC4 := Lib.hid hc4
      have HO4 := Lib.hid (HO3.out.trans ho4)
      clear hc4 ho4
      have hci : (c : Int) < 4 := by omega
      have hconv := fun (W : World) (v : Nat) => conv_dig (W.alloc (.cells #[.int .u8 v] 5)) W.heap.size 1 1 (fun _ => v) (fun i hi => by
        obtain rfl : i = 0 := by omega
        rw [World.cell?_alloc_at _ _ _ _ rfl]; rfl)
      go_wp2_with fail
      refine (pick_any b a len cap (mm + 4) 3 (by omega) (by omega) (by omega) _ (HC4.out.below ((Below.refl _ _).alloc (Nat.le_refl _) _))).mono ?_
      rintro e w5 ⟨y, hy, rfl, hc6, ho6⟩
      have HC6 := Lib.hid hc6
      have HO6 := Lib.hid ((HO4.out.trans (Only.of_below (b := b) ((Below.refl w3.heap.size w3).alloc (Nat.le_refl _) _))).trans ho6)
      clear hc6 ho6 hconv
      obtain ⟨ws, hws⟩ : ∃ ws : ByteArray, (strOf 1 fun _ => ((⟨#[49, 50, 57, 48]⟩ : ByteArray)[c]'hc).toNat) = ws := ⟨_, rfl⟩
      have hw1 : ws.size = 1 := by rw [← hws, strOf_size]
      rw [hws]
      have HWS := Lib.hid hws
      clear hws
      have hii : (i : Int) + 1 ≤ s.size := by omega
      have hwp : IntKind.i64.wrap ((i : Int) + 1) = (i : Int) + 1 := IntWalk.i64_in _ (by omega)
      have hmin : min i s.size = i := by omega
      have hm1 : ¬ 9223372036854775807 < i + 1 := by omega
      have hm2 : ¬ 9223372036854775807 < i + 1 + (s.size - i) := by omega
      have hm3 : ¬ 9223372036854775807 < i + 1 + (s.size - (i + 1)) := by omega
      have hm4 : ¬ 9223372036854775807 < i + (s.size - (i + 1)) := by omega
      have hy3 : y = 0 ∨ y = 1 ∨ y = 2 := by omega
      rcases hy3 with rfl | rfl | rfl
      all_goals
        go_wp2_with fail
        go_quiet (fail)
        go_wp2
        go_roundg g'
        case measure => omega
        case rel =>
          refine ⟨_, mm + 6, by omega, ?_, by omega, rfl, by go_num, HC6.out, Only.drewN HO6.out _⟩
          simp only [ByteArray.size_append, ByteArray.size_extract]
          omega
    · by_cases hg : 0 < gk
      · have hs0 : s.size = 0 := by omega
        have hs0i : ¬ ((0 : Int) < s.size) := by omega
        have hgi : (0 : Int) < gk := by omega
        have HS0 := Lib.hid hs0
        clear hs0 hgo
        go_wp2
        go_ret
        exact ⟨s, by omega, rfl, HC2.out.more (by omega), HO2.out⟩
      · obtain rfl : gk = 0 := by omega
        clear hgo
        go_wp2
        go_ret
        exact ⟨s, by omega, rfl, HC2.out.more (by omega), HO2.out⟩

set_option maxRecDepth 100000 in
set_option maxHeartbeats 1000000 in
theorem anyRow_draw (b : Nat) (a : Option Addr) (len cap m : Nat) (hm : m ≤ 700000) (w : World) (hc : Cur w b a len cap m) :
    Calls Try.prog 42 #[.pointer (some ⟨b, 0, none⟩)] w (SomeText 10 b a len cap (m + 30) w) := by
  have HC := Lib.hid hc
  clear hc
  go_enter Try.func42, Try.ntmps42
  go_wp2_with fail
  refine (stage_draw b a len cap m (by omega) _ HC.out).mono ?_
  rintro e w1 ⟨n, ⟨h3, h8⟩, rfl, hc1, ho1⟩
  obtain ⟨q, rfl⟩ := Int.eq_ofNat_of_zero_le (show 0 ≤ n by omega)
  have HC1 := Lib.hid hc1
  have HO1 := Lib.hid ho1
  clear hc1 ho1
  go_wp2_with fail
  refine (row_draw b a len cap (m + 2) q (by omega) (by omega) (by omega) _ HC1.out).mono ?_
  rintro e w2 ⟨s, hs, rfl, hc2, ho2⟩
  have HC2 := Lib.hid hc2
  have HO2 := Lib.hid (HO1.out.trans ho2)
  clear hc2 ho2
  go_wp2_with fail
  refine (one_any b a len cap (m + 2 + 2) 12 (by omega) (by omega) (by omega) _ HC2.out).mono ?_
  rintro e w3 ⟨t, rfl, hc3, ho3⟩
  have HC3 := Lib.hid hc3
  have HO3 := Lib.hid (HO2.out.trans ho3)
  clear hc3 ho3
  cases t
  · go_wp2
    go_ret
    exact ⟨s, by omega, rfl, HC3.out.more (by omega), HO3.out⟩
  · go_wp2_with fail
    refine (spoilt_draw b a len cap (m + 2 + 2 + 2) s hs (by omega) _ HC3.out).mono ?_
    rintro e w4 ⟨s2, hs2, rfl, hc4, ho4⟩
    have HC4 := Lib.hid hc4
    have HO4 := Lib.hid (HO3.out.trans ho4)
    clear hc4 ho4
    go_wp2
    go_ret
    exact ⟨s2, hs2, rfl, HC4.out.more (by omega), HO4.out⟩
end Go.Proofs.Ytkeighlcdnfjcaa
namespace Go.Proofs.Ytkeighlcdnfjcaa
open Go.RowKit
set_option linter.unusedSimpArgs false

/-- bytes that came in: nil, or a row of cap cells, the numbers zs -/
def IsBytes (w : World) (a : Option Addr) (len cap : Nat) (zs : List Int) : Prop :=
  (a = none ∧ len = 0 ∧ cap = 0 ∧ zs = []) ∨
  ∃ x, a = some x ∧ len ≤ cap ∧ cap ≤ maxLen ∧ zs.length = cap ∧ (∀ i, i < zs.length → w.cell? (x.add i) = some (.int .u8 (zs.getD i 0))) ∧ ∀ n ∈ zs, (Lit.int .u8 n).wf = true
theorem codeAt_of {w : World} {a : Option Addr} {len cap : Nat} {zs : List Int} (h : IsBytes w a len cap zs) : CodeAt w w.heap.size a len := by
  rcases h with ⟨_, h0, _⟩ | ⟨x, rfl, hl, _, hz, hc, hw⟩
  · exact .inl h0
  · by_cases h0 : len = 0
    · exact .inl h0
    · obtain ⟨xb, xo, sp⟩ := x
      have hc0 := hc 0 (by omega)
      have hsp : sp = none := by simpa [Addr.add] using World.cell?_spot hc0
      subst hsp
      have hadd : ∀ i, (⟨xb, xo, none⟩ : Addr).add i = ⟨xb, xo + i, none⟩ := fun i => by unfold Addr.add; split <;> simp_all
      refine .inr ⟨xb, xo, fun i => (zs.getD i 0).toNat, rfl, ?_, fun i hi => ?_⟩
      · have := block_lt_of_cell hc0
        rw [hadd] at this
        exact Nat.ne_of_lt this
      · have hi2 : i < zs.length := by omega
        have hmem : zs.getD i 0 ∈ zs := by
          rw [List.getD_eq_getElem?_getD, List.getElem?_eq_getElem hi2]
          exact List.getElem_mem hi2
        have hb := bounds_u8 (hw _ hmem)
        have := hc i hi2
        rw [hadd] at this
        refine ⟨by show (zs.getD i 0).toNat < 256; omega, ?_⟩
        rw [this]
        show _ = some (Value.int .u8 ((zs.getD i 0).toNat : Int))
        rw [Int.toNat_of_nonneg hb.1]

theorem cur_new (a : Option Addr) (len cap : Nat) (w : World) (h : CodeAt w w.heap.size a len) (hl : len ≤ 1048576) :
    Cur (w.alloc (.cells #[.slice a len cap, .int .i64 0, .int .u64 0] 50)) w.heap.size a len cap 0 :=
  ⟨h.only (Only.of_below ((Below.refl _ _).alloc (Nat.le_refl _) _)), hl, 0, 0, Nat.le_refl _, RowAt.new _ _ _⟩
theorem cur_below {w W' : World} {o : Obj} (h : Only w.heap.size (w.alloc o) W') : Below w.heap.size w W' :=
  ((Below.refl _ w).alloc (Nat.le_refl _) o).trans (h.below (by simp))

/-- a text of no more than 10 bytes -/
def SomeStr (w : World) (e : Ending) (w' : World) : Prop := ∃ s : ByteArray, s.size ≤ 10 ∧ e = .returned (.string s) ∧ Below w.heap.size w w'
def SomeStr2 (w : World) (e : Ending) (w' : World) : Prop := ∃ s t : ByteArray, s.size ≤ 10 ∧ t.size ≤ 10 ∧ e = .returned (.tuple #[.string s, .string t]) ∧ Below w.heap.size w w'
def SomeStrInt (w : World) (e : Ending) (w' : World) : Prop := ∃ (s : ByteArray) (k : Int), s.size ≤ 10 ∧ e = .returned (.tuple #[.string s, .int .i64 k]) ∧ Below w.heap.size w w'
def SomeInt1 (w : World) (e : Ending) (w' : World) : Prop := ∃ k : Int, e = .returned (.int .i64 k) ∧ Below w.heap.size w w'
def SomeInt2 (w : World) (e : Ending) (w' : World) : Prop := ∃ n k : Int, -100000 ≤ k ∧ k ≤ 100000 ∧ e = .returned (.tuple #[.int .i64 n, .int .i64 k]) ∧ Below w.heap.size w w'

set_option maxRecDepth 100000 in
set_option maxHeartbeats 1000000 in
theorem DrawTimes_any (a : Option Addr) (len cap : Nat) (zs : List Int) (w : World) (hz : IsBytes w a len cap zs) (hl : len ≤ 1048576) :
    Calls Try.prog 67 #[.slice a len cap] w (SomeStr2 w) := by
  have HCODE := Lib.hid (codeAt_of hz)
  clear hz
  go_enter Try.func67, Try.ntmps67
  go_wp2_with fail
  refine (anyRow_draw w.heap.size a len cap 0 (by omega) _ (cur_new a len cap w HCODE.out hl)).mono ?_
  rintro e w1 ⟨s, hs, rfl, hc1, ho1⟩
  have HC1 := Lib.hid hc1
  have HO1 := Lib.hid ho1
  clear hc1 ho1
  by_cases hsz : 3 ≤ s.size ∧ s.size ≤ 8
  · obtain ⟨h3, h8⟩ := hsz
    have h3' : (3 : Int) ≤ s.size := by omega
    have h8' : (s.size : Int) ≤ 8 := by omega
    go_wp2_with fail
    refine (one_any w.heap.size a len cap _ 8 (by omega) (by omega) (by omega) _ HC1.out).mono ?_
    rintro e w2 ⟨t, rfl, hc2, ho2⟩
    have HC2 := Lib.hid hc2
    have HO2 := Lib.hid (HO1.out.trans ho2)
    clear hc2 ho2
    cases t
    · go_wp2_with fail
      refine (row_draw w.heap.size a len cap _ s.size (by omega) h3 h8 _ HC2.out).mono ?_
      rintro e w3 ⟨u, hu, rfl, hc3, ho3⟩
      have HO3 := Lib.hid (HO2.out.trans ho3)
      clear hc3 ho3
      go_wp2
      go_ret2
      exact ⟨s, u, hs, by omega, rfl, cur_below HO3.out⟩
    · go_wp2_with fail
      refine (anyRow_draw w.heap.size a len cap _ (by omega) _ HC2.out).mono ?_
      rintro e w3 ⟨u, hu, rfl, hc3, ho3⟩
      have HO3 := Lib.hid (HO2.out.trans ho3)
      clear hc3 ho3
      go_wp2
      go_ret2
      exact ⟨s, u, hs, hu, rfl, cur_below HO3.out⟩
  · have hcase : (s.size : Int) < 3 ∨ ((3 : Int) ≤ s.size ∧ (8 : Int) < s.size) := by omega
    clear hsz
    rcases hcase with h1 | ⟨h1, h2⟩
    all_goals
      go_wp2_with fail
      refine (anyRow_draw w.heap.size a len cap _ (by omega) _ HC1.out).mono ?_
      rintro e w3 ⟨u, hu, rfl, hc3, ho3⟩
      have HO3 := Lib.hid (HO1.out.trans ho3)
      clear hc3 ho3
      go_wp2
      go_ret2
      exact ⟨s, u, hs, hu, rfl, cur_below HO3.out⟩

set_option maxRecDepth 100000 in
set_option maxHeartbeats 1000000 in
theorem DrawRoundsOf_any (a : Option Addr) (len cap : Nat) (zs : List Int) (w : World) (hz : IsBytes w a len cap zs) (hl : len ≤ 1048576) :
    Calls Try.prog 62 #[.slice a len cap] w (SomeInt1 w) := by
  have HCODE := Lib.hid (codeAt_of hz)
  clear hz
  go_enter Try.func62, Try.ntmps62
  go_wp2_with fail
  have hcur := cur_new a len cap w HCODE.out hl
  refine (among_any (fun _ => True) w.heap.size a len cap 0 10 (w.heap.size + 1) 10 (fun i => [2, 3, 4, 5, 6, 7, 8, 9, 0, -1].getD i 0) (by omega) (by omega) (by omega) _ (hcur.below ((Below.refl _ _).alloc (Nat.le_refl _) _)) (by omega) (fun i hi => ⟨trivial, ?_⟩)).mono ?_
  · have := list_cells (w.alloc (.cells #[.slice a len cap, .int .i64 0, .int .u64 0] 50)) [2, 3, 4, 5, 6, 7, 8, 9, 0, -1] 3 i hi
    simpa using this
  rintro e w1 ⟨x, hx, rfl, hc1, ho1⟩
  have HO1 := Lib.hid (Only.trans (Only.of_below (b := w.heap.size) ((Below.refl (w.alloc (.cells #[.slice a len cap, .int .i64 0, .int .u64 0] 50)).heap.size _).alloc (Nat.le_refl _) _)) ho1)
  clear hc1 ho1 hcur
  go_wp2
  go_ret
  exact ⟨x, rfl, cur_below HO1.out⟩

set_option maxRecDepth 100000 in
set_option maxHeartbeats 1000000 in
theorem big_any (a1 a2 : Option Addr) (l1 l2 c1 c2 : Nat) (h1 : l1 ≤ maxLen) (h2 : l2 ≤ maxLen) (w : World) :
    Calls Try.prog 13 #[.slice a1 l1 c1, .slice a2 l2 c2] w fun e w' => e = .returned (.bool (decide (1048576 < l1 + l2))) ∧ w = w' := by
  unfold maxLen at h1 h2
  by_cases hb : 1048576 < l1
  · have hb' : (1048576 : Int) < l1 := by omega
    go_enter Try.func13, Try.ntmps13
    go_wp2
    go_ret
    exact ⟨by simp; omega, rfl⟩
  · have hb' : (l1 : Int) ≤ 1048576 := by omega
    by_cases hb2 : 1048576 < l1 + l2
    · have hb2' : (1048576 : Int) - l1 < l2 := by omega
      go_enter Try.func13, Try.ntmps13
      go_wp2
      go_ret
      exact ⟨by simp [hb2]; try omega, rfl⟩
    · have hb2' : (l2 : Int) ≤ (1048576 : Int) - l1 := by omega
      go_enter Try.func13, Try.ntmps13
      go_wp2
      go_ret
      exact ⟨by simp [hb2]; try omega, rfl⟩

/-- the number that is made of bytes -/
def SmallInt (w : World) (e : Ending) (w' : World) : Prop := ∃ k : Nat, k < 1000003 ∧ e = .returned (.int .i64 k) ∧ w = w'
end Go.Proofs.Ytkeighlcdnfjcaa
