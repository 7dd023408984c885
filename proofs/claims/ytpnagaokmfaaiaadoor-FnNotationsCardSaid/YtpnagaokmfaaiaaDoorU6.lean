/- All blocks of a text; the deferred closure that recovers. -/
import Derived.Test.YtpnagaokmfaaiaaDoorU5
import Derived.Defers
import Derived.Recover
import Derived.Laws.Pointers
namespace Go.Proofs.YtpnagaokmfaaiaaDoor
open Go.RowKit
set_option linter.unusedSimpArgs false

theorem assert_yes (q : Int) (W : World) : (Instr.typeAssert (.iface 82 (.int .i64 q)) 20 82 true).run Tryd.prog W = .ok (.tuple #[.int .i64 q, .bool true]) W := by kernel_rfl
theorem assert_no (W : World) : (Instr.typeAssert .nilIface 20 82 true).run Tryd.prog W = .ok (.tuple #[.int .i64 0, .bool false]) W := by kernel_rfl
set_option maxRecDepth 100000 in
set_option maxHeartbeats 1000000 in
theorem catch_panic (p : Addr) (x q : Int) (older : List PanicEntry) (w : World) (hc : w.cell? p = some (.int .i64 x)) (hz : w.frozen? p = false) :
    CallsD Tryd.prog 65 #[.pointer (some p)] (.panicking ({ v := .iface 82 (.int .i64 q), recovered := false } :: older)) w fun e u' w' =>
      e = .returned (.tuple #[]) ∧ u' = .panicking ({ v := .iface 82 (.int .i64 q), recovered := true } :: older) ∧ w' = w.setCell p (.int .i64 q) := by
  refine callsD_of_wpS Tryd.func65 rfl fun c₀ cs hu => ?_
  apply wpS_seq
  apply wpS_region
  simp [wpOpsS, go_sem, recoverD, hu, assert_yes, Tryd.ntmps65, Exit.thenS]
  apply wpS_seq
  apply wpS_region
  simp [wpOpsS, go_sem, Exit.thenS]
  refine wpS_cond (t := true) (by simp [Act.eval, Array.replicate]) ?_
  simp only [if_true]
  apply wpS_region
  simp [wpOpsS, go_sem, hc, hz, bodyPostS, results, Tryd.results65]

set_option maxRecDepth 100000 in
set_option maxHeartbeats 1000000 in
theorem catch_idle (p : Addr) (w : World) :
    CallsD Tryd.prog 65 #[.pointer (some p)] .returning w fun e u' w' => e = .returned (.tuple #[]) ∧ u' = .returning ∧ w' = w := by
  refine callsD_of_wpS Tryd.func65 rfl fun c₀ cs hu => ?_
  apply wpS_seq
  apply wpS_region
  simp [wpOpsS, go_sem, recoverD, hu, assert_no, Tryd.ntmps65, Exit.thenS]
  apply wpS_seq
  apply wpS_region
  simp [wpOpsS, go_sem, Exit.thenS]
  refine wpS_cond (t := false) (by simp [Act.eval, Array.replicate]) ?_
  simp only [Bool.false_eq_true, if_false]
  refine wpS_of_wp (wp_skip ?_)
  cases c₀
  simp_all [bodyPostS, results, Tryd.results65]

/-- all blocks, or where one is wrong -/
def RbRes (r : Blks) (w : World) (e : Ending) (w' : World) : Prop :=
  Below w.heap.size w w' ∧ match r with
  | .error q => e = .returned (.tuple #[.slice none 0 0, .int .i64 q, .bool false])
  | .ok bs => ∃ v vs, e = .returned (.tuple #[v, .int .i64 0, .bool true]) ∧ LS w.heap.size w' v vs bs

set_option maxRecDepth 100000 in
set_option maxHeartbeats 1000000 in
theorem readBlocks_in (n : Nat) (h3 : 3 ≤ n) (h8 : n ≤ 8) (s : ByteArray) (w : World) (hs : s.size ≤ 1000) :
    Calls Tryd.prog 41 #[.int .i64 n, .string s] w (RbRes (blocksP n (lets s)) w) := by
  have hmf : ∀ (fn : Fn) (first cap : Array Value) (w : World), (Instr.makeFunc fn first cap).run Tryd.prog w = .ok (.func fn first cap) w := fun _ _ _ _ => rfl
  have HC : Hid (∀ W b, Rd W b n s 0 → Calls Tryd.prog 66 #[.pointer (some ⟨b, 0, none⟩)] W (BlksRes b (blocksP n (lets s)) W)) := Lib.hid (fun W b hr => blocks_in n h3 h8 b s W hs hr)
  generalize blocksP n (lets s) = res at *
  have hsz : (w.alloc (.cells #[.int .i64 0] 3)).heap.size = w.heap.size + 1 := by simp
  have HRD : Hid (Rd ((w.alloc (.cells #[.int .i64 0] 3)).alloc (.cells #[.int .i64 n, .string s, .int .i64 0] 85)) (w.heap.size + 1) n s 0) := Lib.hid (by rw [← hsz]; exact RowAt.new _ _ _)
  have HOF : Hid (RowAt ((w.alloc (.cells #[.int .i64 0] 3)).alloc (.cells #[.int .i64 n, .string s, .int .i64 0] 85)) w.heap.size 3 #[.int .i64 0]) := Lib.hid (RowAt.push (RowAt.new _ _ _) _)
  have HBB : Hid (Below w.heap.size w ((w.alloc (.cells #[.int .i64 0] 3)).alloc (.cells #[.int .i64 n, .string s, .int .i64 0] 85)) ∧ ((w.alloc (.cells #[.int .i64 0] 3)).alloc (.cells #[.int .i64 n, .string s, .int .i64 0] 85)).heap.size = w.heap.size + 2) := Lib.hid ⟨((Below.refl _ w).alloc (Nat.le_refl _) _).alloc (by simp) _, by simp⟩
  clear hsz
  go_enter_defers Tryd.func41, Tryd.ntmps41
  go_wp2_with fail
  generalize (w.alloc (.cells #[.int .i64 0] 3)).alloc (.cells #[.int .i64 n, .string s, .int .i64 0] 85) = w1 at *
  refine (HC.out _ _ HRD.out).mono ?_
  intro e w2 hres
  cases res with
  | error q =>
    obtain ⟨rfl, hon⟩ := hres
    have HO2 := Lib.hid (RowAt.only HOF.out hon (by omega))
    have HB2 : Hid (Below w.heap.size w w2) := Lib.hid (HBB.out.1.trans ((hon.below (by have := HBB.out.2; omega)).mono (by omega)))
    clear hon HC
    refine leaves_cons (f := 65) (args := #[.pointer (some ⟨w.heap.size, 0, none⟩)]) (by simp) (by simp [go_sem]) ?_
    refine (catch_panic ⟨w.heap.size, 0, none⟩ 0 q [] _ (HO2.out.cell 0 rfl) (HO2.out.free 0)).mono ?_
    rintro e u' w3 ⟨rfl, rfl, rfl⟩
    have c0 := (HO2.out.set 0 (.int .i64 q)).cell 0 rfl
    have HB3 := Lib.hid (HB2.out.setCell (p := ⟨w.heap.size, 0, none⟩) (Nat.le_refl _) (.int .i64 q))
    simp only [Leaves, settle, List.dropWhile_nil]
    refine ⟨.tuple #[.slice none 0 0, .int .i64 q, .bool false], ?_, HB3.out, rfl⟩
    simp [results, Tryd.results41, go_sem, c0]
  | ok bs =>
    obtain ⟨v, vs, rfl, hls, hon⟩ := hres
    have HO2 := Lib.hid (RowAt.only HOF.out hon (by omega))
    have HB2 : Hid (Below w.heap.size w w2) := Lib.hid (HBB.out.1.trans ((hon.below (by have := HBB.out.2; omega)).mono (by omega)))
    have HLS := Lib.hid hls
    have c0 := HO2.out.cell 0 rfl
    have f0 := HO2.out.free 0
    clear hon HC hls
    go_wp2
    have c1 := (HO2.out.set 0 (.int .i64 0)).cell 0 rfl
    have HB3 := Lib.hid (HB2.out.setCell (p := ⟨w.heap.size, 0, none⟩) (Nat.le_refl _) (.int .i64 0))
    have HLS3 : Hid (LS w.heap.size (w2.setCell ⟨w.heap.size, 0, none⟩ (.int .i64 0)) v vs bs) := Lib.hid ((HLS.out.only (b := w.heap.size) (by have := HBB.out.2; omega) (Only.set w2 0 _)).lower (by have := HBB.out.2; omega))
    refine leaves_cons (f := 65) (args := #[.pointer (some ⟨w.heap.size, 0, none⟩)]) (by simp) (by simp [go_sem]) ?_
    refine (catch_idle ⟨w.heap.size, 0, none⟩ _).mono ?_
    rintro e u' w3 ⟨rfl, rfl, rfl⟩
    simp only [Leaves, settle]
    refine ⟨.tuple #[v, .int .i64 0, .bool true], ?_, HB3.out, v, vs, rfl, HLS3.out⟩
    simp [results, Tryd.results41, go_sem, c1]
end Go.Proofs.YtpnagaokmfaaiaaDoor
