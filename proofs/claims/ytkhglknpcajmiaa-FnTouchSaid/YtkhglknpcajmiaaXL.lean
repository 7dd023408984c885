/- The last head of a touch, in the program. -/
import Derived.Test.YtkhglknpcajmiaaXK
namespace Go.Proofs.Ytkhglknpcajmiaa
open Go.RowKit
set_option linter.unusedSimpArgs false
set_option linter.unusedVariables false

theorem NewD.lastAt {B : Nat} {W : World} {a : Option Addr} {m cap : Nat} {fs : List (Nat → Nat)} {f : Nat → Nat} (h : NewD B W (.slice a m cap) (fs ++ [f])) : m = fs.length + 1 ∧ ∃ g, a = some ⟨g, 0, none⟩ ∧ W.rangeAt g (fs.length * 8) (cells8 f) := by
  obtain ⟨a', cap', hv, hcap, ha⟩ := h.view (n := fs.length + 1) (by simp)
  injection hv with e1 e2 e3
  subst e1 e2 e3
  obtain ⟨g, rfl⟩ := ha (by omega)
  obtain ⟨a2, cap2, hv2, -, hd⟩ := h.digs
  injection hv2 with e1 e2 e3
  obtain ⟨g', off, hg', -, hr⟩ := hd (by simp)
  subst e1
  injection hg' with hg'
  injection hg' with e4 e5
  subst e4 e5
  refine ⟨rfl, g, rfl, ?_⟩
  have := hr fs.length (by simp)
  simpa using this

set_option maxRecDepth 100000 in
set_option maxHeartbeats 1000000 in
theorem lastHead_any (n : Nat) (a : Option Addr) (m cap : Nat) (h0 h1 h2 : Nat → Nat) (h3 : 3 ≤ n) (h8 : n ≤ 8) (r0 : IsRow n h0) (r1 : IsRow n h1) (r2 : IsRow n h2) (ks : List Nat) (hks : ∀ k ∈ ks, k < 3) (a2 : Option Addr) (k2 : Nat) (w : World) (hv : Own w 3 (.slice a2 ks.length k2) (nums ks)) (hl : ks.length ≤ 60) :
    Calls Try.prog 114 #[.agg (touV (.slice a m cap) (rdf n) h0 h1 h2 (.slice a2 ks.length k2))] w fun e w' => e = .returned (.agg (dig8 (headF n (ks.map (pk3 h0 h1 h2))))) ∧ Below w.heap.size w w' := by
  have HLH : Hid (∀ W, Below w.heap.size w W → Calls Try.prog 109 #[.agg (touV (.slice a m cap) (rdf n) h0 h1 h2 (.slice a2 ks.length k2))] W (RowsOut (leadF n (ks.map (pk3 h0 h1 h2)) (rdf n) ++ [headF n (ks.map (pk3 h0 h1 h2))]) W)) := Lib.hid (fun W hW => leadHeads_any n a m cap h0 h1 h2 h3 h8 r0 r1 r2 ks hks a2 k2 W (hv.kept hW) hl)
  unfold RowsOut at HLH
  have hll : (leadF n (ks.map (pk3 h0 h1 h2)) (rdf n)).length = ks.length := by rw [leadF_len, List.length_map]
  generalize leadF n (ks.map (pk3 h0 h1 h2)) (rdf n) = D at *
  generalize headF n (ks.map (pk3 h0 h1 h2)) = e at *
  generalize rdf n = f at *
  generalize ks.length = p at *
  have HX0 := Lib.hid ((RowAt.new w 116 (touV (.slice a m cap) f h0 h1 h2 (.slice a2 p k2))).push (.cells zero8 87))
  have HZ0 : Hid (RowAt ((w.alloc (.cells (touV (.slice a m cap) f h0 h1 h2 (.slice a2 p k2)) 116)).alloc (.cells zero8 87)) (w.heap.size + 1) 87 zero8) := Lib.hid (by
    have := RowAt.new (w.alloc (.cells (touV (.slice a m cap) f h0 h1 h2 (.slice a2 p k2)) 116)) 87 zero8
    simpa using this)
  have HB0 := Lib.hid (((Below.refl _ w).alloc (Nat.le_refl _) (.cells (touV (.slice a m cap) f h0 h1 h2 (.slice a2 p k2)) 116)).alloc (by simp) (.cells zero8 87))
  have HLL := Lib.hid hll
  have HPI := Lib.hid hl
  have hpi : (p : Int) ≤ 60 := by omega
  clear hv hl h3 h8 r0 r1 r2 hks hll
  simp only [touV, zero8] at HX0 HZ0 HB0 HLH ⊢
  go_enter Try.func114, Try.ntmps114
  go_wp2_with (first | (refine wpList_load_row rfl 116 _ rfl _ rfl 116 _ _ _ (HX0.out) Try.underlying116 rfl (by kernel_rfl) ?_) | fail)
  refine (HLH.out _ HB0.out).mono ?_
  rintro e1 w1 ⟨v1, rfl, hn1, hb1⟩
  have HZ1 := Lib.hid (HZ0.out.kept hb1)
  have HB1 := Lib.hid (HB0.out.trans (hb1.mono HB0.out.size))
  obtain ⟨a1, k1, rfl, hc1, -⟩ := hn1.view (n := p + 1) (by rw [List.length_append, HLL.out]; rfl)
  obtain ⟨-, g, rfl, hr⟩ := hn1.lastAt
  rw [HLL.out] at hr
  have HR := Lib.hid hr
  have hwp : IntKind.i64.wrap (p : Int) = (p : Int) := IntWalk.i64_in _ (by omega)
  have hp0 : (0 : Int) ≤ p := by omega
  have hp1 : (p : Int) < p + 1 := by omega
  clear hr hn1 hb1 HLH HX0 HZ0 HB0
  go_wp2_with (first | (refine wpList_load8 rfl _ rfl g (p * 8) rfl e HR.out ?_) | (refine wpList_store_row rfl 87 _ _ rfl _ _ rfl rfl 87 _ (HZ1.out) (by kernel_rfl) rfl (by kernel_rfl) ?_) | fail)
  exact bodyPost_ret (results_cell_row rfl _ _ (w.heap.size + 1) 87 _ (0, 0) _ rfl (HZ1.out.row _) Try.underlying87 rfl (by kernel_rfl)) rfl ⟨rfl, below_setRow HB1.out (by omega) _⟩
end Go.Proofs.Ytkhglknpcajmiaa
