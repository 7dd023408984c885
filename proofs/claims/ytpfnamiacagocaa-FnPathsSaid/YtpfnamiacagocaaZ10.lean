/- The law PathsOf. -/
import Derived.Test.YtpfnamiacagocaaZ9
namespace Go.Proofs.Ytpfnamiacagocaa
open Go.RowKit
set_option linter.unusedSimpArgs false
set_option linter.unusedVariables false

/-- all blocks of a list of lists lie below B -/
def LtL (v : Value) (vs : List Value) (n B : Nat) : Prop := (∀ g, v.ownBlock = some g → g < B) ∧ ∀ i g, i < n → (vs.getD i nilV).ownBlock = some g → g < B
theorem LtL.mono {v : Value} {vs : List Value} {n B B' : Nat} (h : LtL v vs n B) (hB : B ≤ B') : LtL v vs n B' := ⟨fun g hg => Nat.lt_of_lt_of_le (h.1 g hg) hB, fun i g hi hg => Nat.lt_of_lt_of_le (h.2 i g hi hg) hB⟩
theorem Lists.below {B : Nat} {W : World} {v : Value} {vs : List Value} {n : Nat} {F : Nat → List Int} (h : Lists B W v vs n F) : LtL v vs n W.heap.size := ⟨fun g hg => h.outer.lt g hg, fun i g hi hg => (h.inner i hi).lt g hg⟩
theorem Lists.under {B C : Nat} {W W' : World} {v : Value} {vs : List Value} {n : Nat} {F : Nat → List Int} (h : Lists B W v vs n F) (hl : LtL v vs n C) (hb : Below C W W') : Lists B W' v vs n F :=
  ⟨h.outer.under hl.1 hb, h.len, fun i hi => (h.inner i hi).under (fun g hg => hl.2 i g hi hg) hb, h.apart, h.base, h.ibase⟩
theorem Lists.besides {B : Nat} {W W' : World} {v u : Value} {vs : List Value} {n : Nat} {F : Nat → List Int} (h : Lists B W v vs n F) (hk : KeptBut W W' u) (hu : ∀ g, u.ownBlock = some g → g < B) : Lists B W' v vs n F :=
  ⟨h.outer.besides hk (fun g hg e => by have := h.base g hg; have := hu g e; omega), h.len, fun i hi => (h.inner i hi).besides hk (fun g hg e => by have := h.ibase i g hi hg; have := hu g e; omega), h.apart, h.base, h.ibase⟩
theorem Lists.drewN {B : Nat} {W : World} {v : Value} {vs : List Value} {n : Nat} {F : Nat → List Int} (h : Lists B W v vs n F) (d : Nat) : Lists B (W.drewN d) v vs n F := h.kept (below_drewN (Below.refl _ _) _)
theorem Lists.marked {B : Nat} {W : World} {v : Value} {vs : List Value} {n : Nat} {F : Nat → List Int} {k : Int} (h : Lists B W v vs n (markF F k n)) : Lists B W v vs n (fun i => marks (k + (offL (fun i => (F i).length) i : Nat)) (F i).length) :=
  h.congr fun i hi => by unfold markF; rw [if_pos hi]
theorem offL_bound {L : Nat → Nat} {n c : Nat} (h : ∀ i, i < n → L i ≤ c) : offL L n ≤ n * c := by
  induction n with
  | zero => simp [offL]
  | succ n ih =>
    have h1 := ih (fun i hi => h i (by omega))
    have h2 := h n (by omega)
    simp only [offL]
    rw [Nat.add_mul]
    omega
theorem pathsF_len (s : ByteArray) (n : Int) (L : List (List Nat)) (k : Nat) : (pathsF s n L k).length = L.length + 1 := by
  unfold pathsF
  rw [List.length_map, pathF_len, chR_len]
theorem bothPathsOf (s : ByteArray) (hs : s.size ≤ maxLen) (n : Int) (L : List (List Nat)) (hl : L.length ≤ 2000000) (hsm : Small L) :
    ∃ (p : Nat) (F : Nat → List Int) (flag : Bool), p ≤ 1000 ∧ (∀ i, i < p → (F i).length ≤ 1000000) ∧ offL (fun i => (F i).length) p ≤ 100000 ∧ (∀ u w, Txts w u L → Calls Try.prog 15 #[.agg #[.string s, .int .i64 n, u]] w (ListsR p F flag w)) ∧
      (∀ u w, Txts w u L → Calls Try.prog 16 #[.agg #[.string s, .int .i64 n, u]] w (ListsR p F flag w)) := by
  have hp : pathsC s n L ≤ 8 ∧ (0 < pathsC s n L → L.length ≤ 40) := by
    unfold pathsC
    by_cases hg : goodM s n L = true
    · obtain ⟨k, rfl⟩ := Int.eq_ofNat_of_zero_le (show 0 ≤ n by have := goodAll_range (goodM_parts hg).1; omega)
      obtain ⟨h3, h8, hrows, h40, -⟩ := goodM_nat hg
      rw [chR_len] at h40
      rw [if_pos hg, Int.toNat_natCast]
      exact ⟨h8, fun _ => h40⟩
    · rw [if_neg hg]
      exact ⟨by omega, fun h => absurd h (by omega)⟩
  obtain ⟨hp8, hp40⟩ := hp
  refine ⟨pathsC s n L, pathsF s n L, goodM s n L, by omega, fun i hi => ?_, ?_, fun u w h => iPathsOf_any s hs n u L w h hl, fun u w h => sPathsOf_any s hs n u L w h hl hsm⟩
  · rw [pathsF_len]
    have := hp40 (by omega)
    omega
  · have := offL_bound (L := fun i => (pathsF s n L i).length) (n := pathsC s n L) (c := 41) (fun i hi => by
      show (pathsF s n L i).length ≤ 41
      rw [pathsF_len]
      have := hp40 (by omega)
      omega)
    omega

set_option maxRecDepth 100000 in
set_option maxHeartbeats 1000000 in
theorem lawPathsOf (s : ByteArray) (n : Int) (v : Value) (ss : List ByteArray) (W : World) (hsz : s.size ≤ maxLen) (hA : Arg W v ss) (hy : ss.length ≤ maxLen ∧ ∀ t ∈ ss, t.size ≤ maxLen) :
    Calls Try.prog 6 #[.agg #[.string s, .int .i64 n, v]] W fun e w' => e = .returned (.bool true) ∧ Below W.heap.size W w' := by
  obtain ⟨a, cap, rfl, -⟩ := id hA
  have HB : Hid (s.size ≤ 1048576 → ss.length ≤ 1048576 → (∀ t ∈ ss, t.size ≤ 1048576) → _) := Lib.hid (fun h1 h2 h3 => bothPathsOf s (by simp only [maxLen]; omega) n (letss ss) (by rw [letss_len]; omega) (small_letss hy.2))
  have HSZ : Hid (∀ w, Arg w (.slice a ss.length cap) ss → Calls Try.prog 43 #[.agg #[.string s, .int .i64 n, .slice a ss.length cap], .int .i64 1048576] w _) := Lib.hid (fun w h => szMethod_any s hsz n (.slice a ss.length cap) ss w h hy.1 hy.2 1048576 (by omega) (by omega))
  have HTO : Hid (ss.length ≤ 1048576 → ∀ w, Arg w (.slice a ss.length cap) ss → Calls Try.prog 44 #[.agg #[.string s, .int .i64 n, .slice a ss.length cap]] w (MethOut s n (letss ss) w)) := Lib.hid (fun h2 w h => toMethod_any s n (.slice a ss.length cap) ss w h (by omega))
  have HLL := Lib.hid (letss_len ss)
  have HA := Lib.hid hA
  have HSS : Hid (ss.length = ss.length) := Lib.hid rfl
  have HR0 := Lib.hid (RowAt.new W 51 #[.string s, .int .i64 n, .slice a ss.length cap])
  have HB0 := Lib.hid ((Below.refl _ W).alloc (Nat.le_refl _) (.cells #[.string s, .int .i64 n, .slice a ss.length cap] 51))
  unfold MethOut at HTO
  generalize letss ss = L at *
  generalize hm : ss.length = m at *
  have HMM := Lib.hid hm
  clear hA hy hsz hm
  go_enter Try.func6, Try.ntmps6
  go_wp2_with (first | (refine wpList_load_row rfl 51 _ rfl _ rfl 51 _ _ _ (HR0.out) Try.underlying51 rfl (by kernel_rfl) ?_) | fail)
  refine (HSZ.out _ (HA.out.kept HB0.out)).mono ?_
  rintro e w1 ⟨z, rfl, hz0, hz1, hz2, hb1⟩
  have HR1 := Lib.hid (HR0.out.kept hb1)
  have HB1 := Lib.hid (HB0.out.trans (hb1.mono HB0.out.size))
  clear HR0 HB0 hb1 HSZ
  by_cases hneg : z < 0
  · clear hz2
    go_wp2
    go_ret
    exact ⟨rfl, HB1.out⟩
  have hz3 := hz2 (by omega)
  obtain ⟨hs1, hs2, hs3⟩ := hz3
  have hm2 : m ≤ 1048576 := by omega
  have HTO2 := Lib.hid (HTO.out hm2)
  have hboth := HB.out (by omega) (by omega) (fun t ht => by have := hs3 t ht; omega)
  clear HB HTO hz2 hs1 hs2 hs3
  obtain ⟨p, F, flag, hpl, hpe, hof, hI, hS⟩ := hboth
  have HPE := Lib.hid hpe
  have HOF := Lib.hid hof
  have HI := Lib.hid hI
  have HS := Lib.hid hS
  clear hI hS
  obtain ⟨tot, htot⟩ : ∃ t, offL (fun i => (F i).length) p = t := ⟨_, rfl⟩
  have HTT := Lib.hid htot
  rw [htot] at hof
  clear htot hpe
  unfold ListsR at HI HS
  go_wp2_with (first | (refine wpList_load_row rfl 51 _ rfl _ rfl 51 _ _ _ (HR1.out) Try.underlying51 rfl (by kernel_rfl) ?_) | fail)
  refine (HTO2.out _ (HA.out.kept HB1.out)).mono ?_
  rintro e w2 ⟨v2, rfl, hn2, hb2⟩
  have HR2 := Lib.hid (HR1.out.kept hb2)
  have HB2 := Lib.hid (HB1.out.trans (hb2.mono HB1.out.size))
  have HT2 := Lib.hid hn2.own.txts
  clear HR1 HB1 hn2 hb2
  go_wp2_with fail
  refine (HS.out _ _ HT2.out).mono ?_
  rintro e w3 ⟨v3, vs3, rfl, hn3, hb3⟩
  have HP3 := Lib.hid hn3
  have HLT3 := Lib.hid hn3.below
  have HW3 := Lib.hid (Nat.le_refl w3.heap.size)
  clear hn3
  have HR3 := Lib.hid (HR2.out.kept hb3)
  have HB3 := Lib.hid (HB2.out.trans (hb3.mono HB2.out.size))
  clear HR2 HB2 hb3 HT2
  go_wp2_with (first | (refine wpList_load_row rfl 51 _ rfl _ rfl 51 _ _ _ (HR3.out) Try.underlying51 rfl (by kernel_rfl) ?_) | fail)
  refine (HTO2.out _ (HA.out.kept HB3.out)).mono ?_
  rintro e w4 ⟨v4, rfl, hn4, hb4⟩
  have HP4 := Lib.hid (HP3.out.kept hb4)
  have HW4 := Lib.hid hb4.size
  have HR4 := Lib.hid (HR3.out.kept hb4)
  have HB4 := Lib.hid (HB3.out.trans (hb4.mono HB3.out.size))
  have HN4 := Lib.hid hn4
  have HLT4 := Lib.hid hn4.own.lt
  obtain ⟨a4, k4, rfl, -⟩ := hn4.own.view
  rw [strs_len, HLL.out] at HN4 ⊢
  have HB3s := Lib.hid HB3.out.size
  have HR3lt := Lib.hid HR3.out.lt
  clear HR3 HB3 hn4 hb4 HP3 HW3
  go_wp2_with (first | (refine wpList_store_row rfl 26 _ _ rfl _ _ rfl rfl 26 _ (heap_alloc_new _ _) (by kernel_rfl) rfl (by kernel_rfl) ?_; rw [World.setRow_alloc_new]) | fail)
  have HX5 := Lib.hid (RowAt.new w4 26 #[.string s, .int .i64 n, .slice a4 m k4])
  have HR5 := Lib.hid (HR4.out.push (.cells #[.string s, .int .i64 n, .slice a4 m k4] 26))
  have HB5 := Lib.hid (HB4.out.alloc HB4.out.size (.cells #[.string s, .int .i64 n, .slice a4 m k4] 26))
  have HN5 := Lib.hid (HN4.out.kept ((Below.refl _ _).alloc (Nat.le_refl _) (.cells #[.string s, .int .i64 n, .slice a4 m k4] 26)))
  have HP5 := Lib.hid (HP4.out.kept ((Below.refl _ _).alloc (Nat.le_refl _) (.cells #[.string s, .int .i64 n, .slice a4 m k4] 26)))
  have HW5 := Lib.hid (Nat.le_trans HW4.out ((Below.refl w4.heap.size _).alloc (Nat.le_refl _) (.cells #[.string s, .int .i64 n, .slice a4 m k4] 26)).size)
  have HW35 := Lib.hid HW5.out
  have HLT5 : Hid (∀ g, (Value.slice a4 m k4).ownBlock = some g → g < (w4.alloc (.cells #[.string s, .int .i64 n, .slice a4 m k4] 26)).heap.size) := Lib.hid (fun g hg => HN5.out.own.lt g hg)
  clear HR4 HB4 HN4 HP4 HW4
  generalize w4.alloc (.cells #[.string s, .int .i64 n, .slice a4 m k4] 26) = w5 at *
  refine (HI.out _ _ HN5.out.own.txts).mono ?_
  rintro e w5b ⟨v6, vs6, rfl, hn6, hb6⟩
  have HX5b := Lib.hid (HX5.out.kept hb6)
  have HR5b := Lib.hid (HR5.out.kept hb6)
  have HB5b := Lib.hid (HB5.out.trans (hb6.mono HB5.out.size))
  have HN5b := Lib.hid (HN5.out.kept hb6)
  have HP5b := Lib.hid (HP5.out.kept hb6)
  have HW5b := Lib.hid (Nat.le_trans HW5.out hb6.size)
  have HV5b := Lib.hid hb6.size
  have HQ5b := Lib.hid hn6
  clear HX5 HR5 HB5 HN5 hb6 HP5 HW5 hn6
  go_wp2_with fail
  refine (eqIntSS_same _ _ v6 v3 vs6 vs3 p F _ HQ5b.out HP5b.out (by omega) HPE.out).mono ?_
  rintro e w6 ⟨rfl, d6, hd6⟩
  have HX6 : Hid (RowAt w6 w4.heap.size 26 #[.string s, .int .i64 n, .slice a4 m k4]) := by rw [hd6]; exact HX5b.out.drewN d6
  have HR6 : Hid (RowAt w6 W.heap.size 51 #[.string s, .int .i64 n, .slice a m cap]) := by rw [hd6]; exact HR5b.out.drewN d6
  have HB6 : Hid (Below W.heap.size W w6) := by rw [hd6]; exact below_drewN HB5b.out _
  have HN6 : Hid (New w3.heap.size w6 9 (.slice a4 m k4) (strs L)) := by rw [hd6]; exact HN5b.out.drewN _
  have HP6 : Hid (Lists w2.heap.size w6 v3 vs3 p F) := by rw [hd6]; exact HP5b.out.drewN _
  have HQ6 : Hid (Lists w5.heap.size w6 v6 vs6 p F) := by rw [hd6]; exact HQ5b.out.drewN _
  have HW6 : Hid (w3.heap.size ≤ w6.heap.size) := by rw [hd6]; exact HW5b
  have HV6 : Hid (w5.heap.size ≤ w6.heap.size) := by rw [hd6]; exact HV5b
  clear hd6 HX5b HR5b HB5b HN5b HP5b HQ5b HW5b HV5b
  go_wp2
  have hltx := HX6.out.lt
  have hltr := HR6.out.lt
  have HX6A : Hid (∀ W', Below w6.heap.size w6 W' → (W'.cell? ⟨w4.heap.size, 0, none⟩ = some (.string s) ∧ W'.cell? ⟨w4.heap.size, 1, none⟩ = some (.int .i64 n) ∧ W'.cell? ⟨w4.heap.size, 2, none⟩ = some (.slice a4 m k4) ∧ W'.cell? ⟨W.heap.size, 0, none⟩ = some (.string s) ∧ W'.cell? ⟨W.heap.size, 1, none⟩ = some (.int .i64 n) ∧ W'.cell? ⟨W.heap.size, 2, none⟩ = some (.slice a m cap) ∧ Below w6.heap.size w6 W')) := Lib.hid (fun W' h => by
    have hx := HX6.out.keep h hltx
    have hr := HR6.out.keep h hltr
    exact ⟨hx.cell 0 rfl, hx.cell 1 rfl, hx.cell 2 rfl, hr.cell 0 rfl, hr.cell 1 rfl, hr.cell 2 rfl, h⟩)
  have HTO7 : Hid (∀ W', Below w6.heap.size w6 W' → Calls Try.prog 44 #[.agg #[.string s, .int .i64 n, .slice a m cap]] W' fun e w' => (∃ a7 k7, e = .returned (.agg #[.string s, .int .i64 n, .slice a7 m k7]) ∧ Own w' 9 (.slice a7 m k7) (strs L)) ∧ Below w6.heap.size w6 w') := Lib.hid (fun W' h => (HTO2.out W' (HA.out.kept (HB6.out.trans (h.mono HB6.out.size)))).mono fun e w' hw => by
    obtain ⟨v7, rfl, hn7, hb7⟩ := hw
    obtain ⟨a7, k7, rfl, -⟩ := hn7.own.view
    have ho := hn7.own
    rw [strs_len, HLL.out] at ho ⊢
    exact ⟨⟨a7, k7, rfl, ho⟩, h.trans (hb7.mono h.size)⟩)
  have HEQ7 : Hid (∀ W' a7 k7, Below w6.heap.size w6 W' → Own W' 9 (.slice a7 m k7) (strs L) → Calls Try.prog 46 #[.agg #[.string s, .int .i64 n, .slice a4 m k4], .agg #[.string s, .int .i64 n, .slice a7 m k7]] W' fun e w' => e = .returned (.bool true) ∧ Below w6.heap.size w6 w') := Lib.hid (fun W' a7 k7 h ho => (eqMethod_same s n _ _ L W' (HN6.out.kept h).own ho (by rw [HLL.out]; omega)).mono fun e w' hw => ⟨hw.1, h.trans (hw.2.mono h.size)⟩)
  clear hltx hltr
  go_region_held3 (fun w' => w'.cell? ⟨w4.heap.size, 0, none⟩ = some (.string s) ∧ w'.cell? ⟨w4.heap.size, 1, none⟩ = some (.int .i64 n) ∧ w'.cell? ⟨w4.heap.size, 2, none⟩ = some (.slice a4 m k4) ∧ w'.cell? ⟨W.heap.size, 0, none⟩ = some (.string s) ∧ w'.cell? ⟨W.heap.size, 1, none⟩ = some (.int .i64 n) ∧ w'.cell? ⟨W.heap.size, 2, none⟩ = some (.slice a m cap) ∧ Below w6.heap.size w6 w') (first | assumption | exact HX6A.out _ (Below.refl _ _).drew) (first | (go_at_call 44; refine (HTO7.out _ (by first | exact (Below.refl _ _).drew | exact Below.refl _ _)).mono ?_; rintro e7 w7 ⟨⟨a7, k7, rfl, ho7⟩, hb7⟩; have hS7 := HX6A.out _ hb7) | (go_at_call 46; refine (HEQ7.out _ _ _ hb7 ho7).mono ?_; rintro e8 w8 ⟨rfl, hb8⟩; have hS8 := HX6A.out _ hb8) | fail)
  have HX8 := Lib.hid (HX6.out.kept hb8)
  have HR8 := Lib.hid (HR6.out.kept hb8)
  have HB8 := Lib.hid (HB6.out.trans (hb8.mono HB6.out.size))
  have HN8 := Lib.hid (HN6.out.kept hb8)
  have HP8 := Lib.hid (HP6.out.kept hb8)
  have HQ8 := Lib.hid (HQ6.out.kept hb8)
  have HW8 := Lib.hid (Nat.le_trans HW6.out hb8.size)
  have HV8 := Lib.hid (Nat.le_trans HV6.out hb8.size)
  clear HX6 HR6 HB6 HN6 HP6 HQ6 HW6 HV6 hS8 hS7 hb8 hb7 ho7 HX6A HTO7 HEQ7
  go_wp2_with (first | (refine wpList_load_row rfl 26 _ rfl _ rfl 26 _ _ _ (HX8.out) Try.underlying26 rfl (by kernel_rfl) ?_) | fail)
  refine (markMethod_any s n w3.heap.size (.slice a4 m k4) L _ HN8.out HW8.out (by rw [HLL.out]; omega)).mono ?_
  rintro e w9 ⟨rfl, -, hb9, hk9⟩
  rw [HLL.out]
  have HR9 := Lib.hid (HR8.out.keep hb9 HR3lt.out)
  have HB9 := Lib.hid (HB8.out.trans (hb9.mono HB3s.out))
  have HP9 := Lib.hid (HP8.out.under HLT3.out hb9)
  have HQ9 : Hid (Lists w5.heap.size w9 v6 vs6 p F) := Lib.hid (HQ8.out.besides hk9 HLT5.out)
  have HW9 := Lib.hid (Nat.le_trans HW8.out hb9.size)
  have HV9 := Lib.hid (Nat.le_trans HV8.out hb9.size)
  have hmm : ¬ ((1 : Int) + (m : Nat) < 0) := by omega
  clear HX8 HR8 HB8 HN8 HP8 HQ8 HW8 HV8 hb9 hk9
  go_wp2_with fail
  refine (eqIntSS_same _ _ v6 v3 vs6 vs3 p F _ HQ9.out HP9.out (by omega) HPE.out).mono ?_
  rintro e w10 ⟨rfl, d10, hd10⟩
  have HR10 : Hid (RowAt w10 W.heap.size 51 #[.string s, .int .i64 n, .slice a m cap]) := by rw [hd10]; exact HR9.out.drewN d10
  have HB10 : Hid (Below W.heap.size W w10) := by rw [hd10]; exact below_drewN HB9.out _
  have HP10 : Hid (Lists w2.heap.size w10 v3 vs3 p F) := by rw [hd10]; exact HP9.out.drewN _
  have HQ10 : Hid (Lists w5.heap.size w10 v6 vs6 p F) := by rw [hd10]; exact HQ9.out.drewN _
  have HW10 : Hid (w3.heap.size ≤ w10.heap.size) := by rw [hd10]; exact HW9
  have HV10 : Hid (w5.heap.size ≤ w10.heap.size) := by rw [hd10]; exact HV9
  clear hd10 HR9 HB9 HP9 HQ9 HW9 HV9
  go_wp2_with fail
  refine (markIntSS_any w5.heap.size v6 vs6 p F 1 _ HQ10.out (by omega) HV10.out HOF.out (by omega) (by omega)).mono ?_
  rintro e w11 ⟨rfl, ho11, hb11⟩
  rw [HTT.out]
  have HM11 := Lib.hid ho11.marked
  have HR11 := Lib.hid (HR10.out.keep hb11 (Nat.lt_of_lt_of_le HR3lt.out HW35.out))
  have HB11 := Lib.hid (HB10.out.trans (hb11.mono (Nat.le_trans HB3s.out HW35.out)))
  have HP11 := Lib.hid (HP10.out.under (HLT3.out.mono HW35.out) hb11)
  have hpp : ¬ ((1 : Int) + (tot : Nat) < 0) := by omega
  clear ho11 hb11 HR10 HB10 HP10 HQ10 HW10 HV10
  go_wp2_with fail
  refine (heldIntSS_any w5.heap.size v6 vs6 p (fun i => (F i).length) 1 _ HM11.out (by omega) HOF.out (by omega) (by omega)).mono ?_
  rintro e w12 ⟨rfl, hw12⟩
  have hb12 : Below w11.heap.size w11 w12 := hw12 ▸ Below.refl _ _
  rw [HTT.out]
  clear hw12
  have HM12 := Lib.hid (HM11.out.kept hb12)
  have HR12 := Lib.hid (HR11.out.kept hb12)
  have HB12 := Lib.hid (HB11.out.trans (hb12.mono HB11.out.size))
  have HP12 := Lib.hid (HP11.out.kept hb12)
  clear hb12 HM11 HR11 HB11 HP11
  go_wp2_with (first | (refine wpList_load_row rfl 51 _ rfl _ rfl 51 _ _ _ (HR12.out) Try.underlying51 rfl (by kernel_rfl) ?_) | fail)
  refine (HTO2.out _ (HA.out.kept HB12.out)).mono ?_
  rintro e w13 ⟨v13, rfl, hn13, hb13⟩
  have HM13 := Lib.hid (HM12.out.kept hb13)
  have HB13 := Lib.hid (HB12.out.trans (hb13.mono HB12.out.size))
  have HP13 := Lib.hid (HP12.out.kept hb13)
  have HT13 := Lib.hid hn13.own.txts
  clear hb13 hn13 HM12 HR12 HB12 HP12
  go_wp2_with fail
  refine (HI.out _ _ HT13.out).mono ?_
  rintro e w14 ⟨v14, vs14, rfl, hn14, hb14⟩
  have HM14 := Lib.hid (HM13.out.kept hb14)
  have HB14 := Lib.hid (HB13.out.trans (hb14.mono HB13.out.size))
  have HP14 := Lib.hid (HP13.out.kept hb14)
  have HQ14 := Lib.hid hn14
  clear hb14 hn14 HM13 HB13 HP13 HT13
  go_wp2_with fail
  refine (eqIntSS_same _ _ v14 v3 vs14 vs3 p F _ HQ14.out HP14.out (by omega) HPE.out).mono ?_
  rintro e w15 ⟨rfl, d15, hd15⟩
  have HM15 : Hid (Lists w5.heap.size w15 v6 vs6 p (fun i => marks (1 + (offL (fun i => (F i).length) i : Nat)) (F i).length)) := by rw [hd15]; exact HM14.out.drewN _
  have HB15 : Hid (Below W.heap.size W w15) := by rw [hd15]; exact below_drewN HB14.out _
  clear hd15 HM14 HB14 HP14 HQ14
  go_wp2_with fail
  refine (heldIntSS_any w5.heap.size v6 vs6 p (fun i => (F i).length) 1 _ HM15.out (by omega) HOF.out (by omega) (by omega)).mono ?_
  rintro e w16 ⟨rfl, hw16⟩
  have hb16 : Below w15.heap.size w15 w16 := hw16 ▸ Below.refl _ _
  rw [HTT.out]
  clear hw16
  go_wp2
  go_ret
  exact ⟨rfl, HB15.out.trans (hb16.mono HB15.out.size)⟩


end Go.Proofs.Ytpfnamiacagocaa
