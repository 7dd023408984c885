/- Calls in the model: heads and rows. -/
import Derived.Test.YtkhglknpcajmiaaQC
namespace Go.Proofs.Ytkhglknpcajmiaa
open Go.RowKit
set_option linter.unusedSimpArgs false
set_option linter.unusedVariables false

theorem Txts.prefix {W : World} {a : Option Addr} {m cap : Nat} {xs : List (List Nat)} (h : Txts W (.slice a m cap) xs) (k : Nat) (hk : k ≤ xs.length) : Txts W (.slice a k cap) (xs.take k) := by
  obtain ⟨a', cap', hv, hcap, ha⟩ := h
  injection hv with e1 e2 e3
  subst e1 e3
  have hl : (xs.take k).length = k := by rw [List.length_take]; omega
  refine ⟨a, cap, by rw [hl], by rw [hl]; omega, fun h0 => ?_⟩
  rw [hl] at h0
  obtain ⟨g, off, rfl, hg, hc⟩ := ha (by omega)
  refine ⟨g, off, rfl, hg, fun i hi => ?_⟩
  rw [hl] at hi
  have := hc i (by omega)
  rw [List.getD_eq_getElem?_getD] at this ⊢
  rwa [List.getElem?_take_of_lt hi]

set_option maxRecDepth 100000 in
set_option maxHeartbeats 1000000 in
theorem l8Head_any (s : ByteArray) (n : Nat) (v : Value) (L : List (List Nat)) (b q r : ByteArray) (hg : goodK s n L b q = true) (hr : kB r = true) (w : World) (h : Txts w v L) :
    Calls Try.prog 87 #[.agg #[.string s, .int .i64 n, v], .agg #[.string b, .string q], .string r] w fun e w' => e = .returned (.string (strOf n (hdK n L b q (kN r)))) ∧ Below w.heap.size w w' := by
  obtain ⟨a, cap, rfl, hcap, -⟩ := id h
  have HT := Lib.hid h
  obtain ⟨hgm, hgb, hgq⟩ := goodK_parts hg
  obtain ⟨h3, h8, hrows, h40, h1⟩ := goodM_nat hgm
  rw [chR_len] at h40 h1
  have HCH := Lib.hid (fun w h => l8Change_any s n (.slice a L.length cap) L b q r hr h1 h40 w h)
  have HRD := Lib.hid (l1Rounds_any n h8)
  have HLE : Hid (∀ v w, Txts w v (L.take (L.length - 1)) → Calls Try.prog 140 #[v, .string (rnds n)] w (LeadOut (rowsL n (leadF n (chR n (L.take (L.length - 1))) (rdf n))) (strOf n (befF n L)) w)) := Lib.hid (fun v w h => by
    have := l4Lead_gen n v (L.take (L.length - 1)) (rdf n) (isRow_rdf h3 h8) (fun l hl => goodAll_mem (goodM_parts hgm).1 l (List.mem_of_mem_take hl)) (by rw [List.length_take]; omega) w h
    rwa [strOf_rdf] at this)
  have HAP := Lib.hid (fun (x : List Nat) (hx : goodC n (txt x) = true) => app_row n (befF n L) (isRow_bef hgm) x hx)
  have HAP2 : Hid (∀ w, Calls Try.prog 119 #[.string (strOf n (befF n L)), .string (endC L b q (kN r))] w fun e w' => e = .returned (.string (strOf n (hdK n L b q (kN r)))) ∧ Below w.heap.size w w') := Lib.hid (fun w => by
    have hx := goodK_end hg (kN r)
    have e : txt (lets (endC L b q (kN r))) = endC L b q (kN r) := txt_lets _
    have := HAP.out (lets (endC L b q (kN r))) (by rw [e]; exact hx) w
    rw [e] at this
    exact this)
  unfold LeadOut at HLE
  generalize rowsL n (leadF n (chR n (L.take (L.length - 1))) (rdf n)) = rl at *
  generalize strOf n (hdK n L b q (kN r)) = res at *
  generalize strOf n (befF n L) = bef at *
  generalize endC L b q (kN r) = ch at *
  generalize rnds n = rn at *
  have HR0 := Lib.hid ((RowAt.new w 25 #[.string s, .int .i64 n, .slice a L.length cap]).push (.cells #[.string b, .string q] 27))
  have HK0 : Hid (RowAt ((w.alloc (.cells #[.string s, .int .i64 n, .slice a L.length cap] 25)).alloc (.cells #[.string b, .string q] 27)) (w.heap.size + 1) 27 #[.string b, .string q]) := Lib.hid (by
    have := RowAt.new (w.alloc (.cells #[.string s, .int .i64 n, .slice a L.length cap] 25)) 27 #[.string b, .string q]
    simpa using this)
  have HB0 := Lib.hid (((Below.refl _ w).alloc (Nat.le_refl _) (.cells #[.string s, .int .i64 n, .slice a L.length cap] 25)).alloc (by simp) (.cells #[.string b, .string q] 27))
  have HPF : Hid (∀ W, Txts W (.slice a L.length cap) L → Txts W (.slice a (L.length - 1) cap) (L.take (L.length - 1))) := Lib.hid (fun W h => h.prefix _ (by omega))
  generalize hL : L.length = m at *
  obtain ⟨k, rfl⟩ : ∃ k, m = k + 1 := ⟨m - 1, by omega⟩
  have hk2 : k ≤ 39 := by omega
  have hk3 : (0 : Int) ≤ k := by omega
  have hk4 : (k : Int) ≤ cap := by omega
  have hk5 : k ≤ cap := by omega
  rw [Nat.add_sub_cancel] at HLE HPF
  clear h hcap hg hr hgm hgb hgq hrows h40 h1 hL HAP
  have c1 := HR0.out.cell 1 rfl
  have c2 := HR0.out.cell 2 rfl
  go_enter Try.func87, Try.ntmps87
  go_wp2_with fail
  generalize (w.alloc (.cells #[.string s, .int .i64 n, .slice a (k + 1) cap] 25)).alloc (.cells #[.string b, .string q] 27) = w0 at *
  have HX0 : Hid (∀ W', Below w0.heap.size w0 W' → (W'.cell? ⟨w.heap.size, 1, none⟩ = some (.int .i64 n) ∧ W'.cell? ⟨w.heap.size, 2, none⟩ = some (.slice a (k + 1) cap) ∧ Below w0.heap.size w0 W')) := Lib.hid (fun W' h => by
    have hr := HR0.out.keep h HR0.out.lt
    exact ⟨hr.cell 1 rfl, hr.cell 2 rfl, h⟩)
  have HLD : Hid (∀ W', Below w0.heap.size w0 W' → Calls Try.prog 140 #[.slice a k cap, .string rn] W' fun e w' => (∃ a5 k5, e = .returned (.tuple #[.slice a5 rl.length k5, .string bef])) ∧ Below w0.heap.size w0 w') := Lib.hid (fun W' h => (HLE.out _ _ (HPF.out _ ((HT.out.kept HB0.out).kept h))).mono fun e w' hw => by
    obtain ⟨v5, rfl, hn5, hb5⟩ := hw
    obtain ⟨a5, k5, rfl, -⟩ := hn5.own.view
    rw [strs_len]
    exact ⟨⟨a5, k5, rfl⟩, h.trans (hb5.mono h.size)⟩)
  have hwp : IntKind.i64.wrap (k : Int) = (k : Int) := IntWalk.i64_in _ (by omega)
  go_region_held3 (fun w' => w'.cell? ⟨w.heap.size, 1, none⟩ = some (.int .i64 n) ∧ w'.cell? ⟨w.heap.size, 2, none⟩ = some (.slice a (k + 1) cap) ∧ Below w0.heap.size w0 w') (first | assumption | exact HX0.out _ (Below.refl _ _).drew) (first | (go_at_call 101; refine (HRD.out _).mono ?_; rintro e3 w3 ⟨rfl, rfl⟩) | (go_at_call 140; refine (HLD.out _ (by first | exact (Below.refl _ _).drew | exact Below.refl _ _)).mono ?_; rintro e4 w4 ⟨⟨a5, k5, rfl⟩, hb4⟩; have hS4 := HX0.out _ hb4) | fail)
  have HR4 := Lib.hid (HR0.out.kept hb4)
  have HK4 := Lib.hid (HK0.out.kept hb4)
  have HB4 := Lib.hid (HB0.out.trans (hb4.mono HB0.out.size))
  clear HX0 HLD hS4 hb4 HR0 HK0 HB0 c1 c2 HPF HLE HRD
  go_wp2_with (first | (refine wpList_load_row rfl 25 _ rfl _ rfl 25 _ _ _ (HR4.out) Try.underlying25 rfl (by kernel_rfl) ?_) | (refine wpList_load_row rfl 27 _ rfl _ rfl 27 _ _ _ (HK4.out) Try.underlying27 rfl (by kernel_rfl) ?_) | fail)
  refine (HCH.out _ (HT.out.kept HB4.out)).mono ?_
  rintro e w6 ⟨rfl, hb6⟩
  have HB6 := Lib.hid (HB4.out.trans (hb6.mono HB4.out.size))
  clear hb6
  go_wp2_with fail
  refine (HAP2.out _).mono ?_
  rintro e w7 ⟨rfl, hb7⟩
  have HB7 := Lib.hid (HB6.out.trans (hb7.mono HB6.out.size))
  go_wp2
  go_ret
  exact ⟨rfl, HB7.out⟩
end Go.Proofs.Ytkhglknpcajmiaa
