/- The program's change of a row. -/
import Derived.Test.YtkeighlcdnfjcaaB10
import Derived.Test.YtkeighlcdnfjcaaQ4
namespace Go.Proofs.Ytkeighlcdnfjcaa
open Go.RowKit

/-- bytes as elements -/
def byts (l : List Nat) : List Value := l.map fun (b : Nat) => .int .u8 b
theorem byts_len (l : List Nat) : (byts l).length = l.length := by simp [byts]
theorem byts_snoc (l : List Nat) (b : Nat) : byts l ++ [.int .u8 b] = byts (l ++ [b]) := by simp [byts]
theorem strOf_txt (l : List Nat) : strOf l.length (fun i => l.getD i 0) = txt l := by
  unfold strOf txt
  congr 2
  apply List.ext_getElem
  · simp
  · intro k h1 h2
    have hk : k < l.length := by simpa using h2
    simp [List.getD_eq_getElem?_getD, hk]

/-- the text of what was found: "-" where no place is made -/
def dashOf : Option (List Nat) → Option (List Nat)
  | none => none
  | some [] => some [45]
  | some (b :: t) => some (b :: t)
theorem chText_ne {n : Nat} {f : Nat → Nat} (h : ¬ to8 f = to8 (rdf n)) : chText n f = dashOf (ctx n f n 0) := by
  unfold chText
  rw [if_neg h]
  cases ctx n f n 0 with
  | none => rfl
  | some t => cases t <;> rfl
/-- the ending of changeText -/
def chEnd (r : Option (List Nat)) : Value := match r with
  | none => .tuple #[.string ⟨#[]⟩, .bool false]
  | some l => .tuple #[.string (txt l), .bool true]

set_option maxRecDepth 100000 in
set_option maxHeartbeats 1000000 in
theorem changeText_any (n : Nat) (f : Nat → Nat) (hf : IsRow n f) (w : World) :
    Calls Try.prog 53 #[.agg (dig8 f)] w fun e w' => e = .returned (chEnd (chText n f)) ∧ Below w.heap.size w w' := by
  have h3 := hf.three
  have h8 := hf.eight
  have h3' : (3 : Int) ≤ n := by omega
  have h8' : (n : Int) ≤ 8 := by omega
  obtain ⟨i0, hi0, hz0, hz1, hz2⟩ := info_parts infoByte
  have I0 := Lib.hid (⟨hi0, hz0, hz1, hz2⟩ : _ ∧ _ ∧ _ ∧ _)
  have HF := Lib.hid hf
  clear hf hi0 hz0 hz1 hz2
  by_cases hr : f = rdf n
  · have hres : chText n f = none := by unfold chText; rw [if_pos (by rw [hr])]
    rw [hres]
    have heq := fun W => run_eql_dig8 W f (rdf n) HF.out.byte (isRow_rdf h3 h8).byte true (by rw [hr]; exact dig8_same _)
    clear hr hres
    go_enter Try.func53, Try.ntmps53
    simp only [dig8]
    go_wp2_with fail
    refine (stage_any n f (isDig_of HF.out) _).mono ?_
    rintro e w1 ⟨rfl, hb1⟩
    have hD1 := (RowAt.new w 56 (dig8 f)).kept hb1
    have hB1 := ((Below.refl _ w).alloc (Nat.le_refl _) (.cells (dig8 f) 56)).trans (hb1.mono (by simp))
    go_wp2_with fail
    refine (roundsDigits_any n h8 _).mono ?_
    rintro e w2 ⟨rfl, hb2⟩
    have hlt2 : w.heap.size < w2.heap.size := (hD1.kept hb2).lt
    have HD := Lib.hid ((hD1.kept hb2).push (.cells (dig8 (rdf n)) 56))
    have HRD := Lib.hid (RowAt.new w2 56 (dig8 (rdf n)))
    have HB := Lib.hid ((hB1.trans (hb2.mono hB1.size)).alloc (by omega) (.cells (dig8 (rdf n)) 56))
    clear hD1 hB1 hb1 hb2
    go_wp2_with (first | (refine wpList_store_row rfl 56 _ _ rfl _ _ rfl rfl 56 _ (heap_alloc_new _ _) (by kernel_rfl) rfl (by kernel_rfl) ?_; rw [World.setRow_alloc_new]) | (refine wpList_load_row rfl 56 _ rfl _ rfl 56 _ _ _ HD.out Try.underlying56 rfl (by kernel_rfl) ?_) | (refine wpList_load_row rfl 56 _ rfl _ rfl 56 _ _ _ HRD.out Try.underlying56 rfl (by kernel_rfl) ?_) | fail)
    go_ret2
    exact ⟨rfl, HB.out⟩
  · have hr8 : ¬ to8 f = to8 (rdf n) := fun h => hr (to8_row HF.out (isRow_rdf h3 h8) h)
    have heq := fun W => run_eql_dig8 W f (rdf n) HF.out.byte (isRow_rdf h3 h8).byte false (dig8_other HF.out (isRow_rdf h3 h8) hr)
    have hrc := chText_ne hr8
    generalize chText n f = res at *
    generalize hc : ctx n f n 0 = rc at *
    have HRC := Lib.hid hrc
    have HC := Lib.hid hc
    clear hr hr8 hrc hc
    go_enter Try.func53, Try.ntmps53
    simp only [dig8]
    go_wp2_with fail
    refine (stage_any n f (isDig_of HF.out) _).mono ?_
    rintro e w1 ⟨rfl, hb1⟩
    have hD1 := (RowAt.new w 56 (dig8 f)).kept hb1
    have hB1 := ((Below.refl _ w).alloc (Nat.le_refl _) (.cells (dig8 f) 56)).trans (hb1.mono (by simp))
    go_wp2_with fail
    refine (roundsDigits_any n h8 _).mono ?_
    rintro e w2 ⟨rfl, hb2⟩
    have hlt2 : w.heap.size < w2.heap.size := (hD1.kept hb2).lt
    have HD := Lib.hid ((hD1.kept hb2).push (.cells (dig8 (rdf n)) 56))
    have HRD := Lib.hid (RowAt.new w2 56 (dig8 (rdf n)))
    have HB := Lib.hid ((hB1.trans (hb2.mono hB1.size)).alloc (by omega) (.cells (dig8 (rdf n)) 56))
    clear hD1 hB1 hb1 hb2
    go_wp2_with (first | (refine wpList_store_row rfl 56 _ _ rfl _ _ rfl rfl 56 _ (heap_alloc_new _ _) (by kernel_rfl) rfl (by kernel_rfl) ?_; rw [World.setRow_alloc_new]) | (refine wpList_load_row rfl 56 _ rfl _ rfl 56 _ _ _ HD.out Try.underlying56 rfl (by kernel_rfl) ?_) | (refine wpList_load_row rfl 56 _ rfl _ rfl 56 _ _ _ HRD.out Try.underlying56 rfl (by kernel_rfl) ?_) | fail)
    clear heq
    go_loopg [6, 7] n (fun q v i wr => ∃ (k : Nat) (acc : List Nat), k ≤ n ∧ n ≤ q + k ∧ i = .int .i64 k ∧ acc.length ≤ k ∧ (ctx n f q k).map (acc ++ ·) = rc ∧ New (w2.heap.size + 1) wr 5 v (byts acc) ∧ RowAt wr w.heap.size 56 (dig8 f) ∧ RowAt wr w2.heap.size 56 (dig8 (rdf n)) ∧ w2.heap.size + 1 ≤ wr.heap.size ∧ Below w.heap.size w wr)
    case atStart => exact ⟨0, [], by omega, by omega, rfl, by simp, by rw [HC.out]; cases rc <;> simp, New.nil _ _ _, HD.out, HRD.out, by simp, HB.out⟩
    case round =>
      clear HD HRD HB HC
      obtain ⟨k, acc, hkn, hq, rfl, hal, hacc, hnew, hrow, hrd, hsz, hbel⟩ := hrel
      have HA := Lib.hid hacc
      have HN := Lib.hid hnew
      have HB := Lib.hid hbel
      have HROW := Lib.hid hrow
      have HRD := Lib.hid hrd
      clear hacc hnew hbel hrow hrd
      by_cases hlt : k < n
      · obtain ⟨q, rfl⟩ : ∃ q, gk = q + 1 := ⟨gk - 1, by omega⟩
        have hki : (k : Int) < (n : Int) := by omega
        have hm := HA.out
        unfold ctx at hm
        rw [if_pos hlt] at hm
        have c1 := HROW.out.cell k (dig8_get f k (by omega))
        have c2 := HRD.out.cell k (dig8_get (rdf n) k (by omega))
        have hrk : rdf n k = 49 + k := by simp [rdf, hlt]
        rw [hrk] at c2
        have b1 : (f k : Int) < 256 := by have := HF.out.byte k; omega
        by_cases hp : f k = 49 + k
        · rw [if_pos hp] at hm
          have HM2 := Lib.hid hm
          have hp' : ((f k : Int) == ((49 + k : Nat) : Int)) = true := by rw [hp]; simp
          rw [hp] at c1
          clear hm HA hp
          go_wp2
          go_quiet (fail)
          have hN0 := HN.out.drewN nq
          have hR0 : RowAt (wr.drewN nq) w.heap.size 56 (dig8 f) := HROW.out
          have hD0 : RowAt (wr.drewN nq) w2.heap.size 56 (dig8 (rdf n)) := HRD.out
          have hB0 := below_drewN HB.out nq
          have hs0 : w2.heap.size + 1 ≤ (wr.drewN nq).heap.size := hsz
          have c3 : (wr.drewN nq).cell? ⟨w.heap.size, k, none⟩ = some (.int .u8 ((49 + k : Nat) : Int)) := c1
          generalize wr.drewN nq = wd at *
          have HN0 := Lib.hid hN0
          have HR0 := Lib.hid hR0
          have HD0 := Lib.hid hD0
          have HB0 := Lib.hid hB0
          clear hN0 hR0 hB0 hD0 HN HB HROW HRD c1 c2
          go_wp2_with (at_builtin; refine wpList_app1 rfl (.tmp 26) (.tmp 30) 22 rfl 5 i0 (.int .u8 0) 1 Try.underlying22 I0.out.1 I0.out.2.1 I0.out.2.2.1 I0.out.2.2.2 rfl (w2.heap.size + 1) wd _ (byts acc) rfl HN0.out rfl rfl hs0 (Below.refl _ _) ?c1 ?c2 ?_)
          case c1 => rw [byts_len]; omega
          case c2 => omega
          intro v' w' hnew' hkeep hbel' hsz'
          have hnew2 : New (w2.heap.size + 1) w' 5 v' (byts (acc ++ [49 + k])) := by rw [← byts_snoc]; simpa using hnew'
          have HN' := Lib.hid hnew2
          have HR' := Lib.hid (hkeep.row HR0.out (fun e => by have := HN0.out.base _ e; omega))
          have HD' := Lib.hid (hkeep.row HD0.out (fun e => by have := HN0.out.base _ e; omega))
          have HB' := Lib.hid (HB0.out.trans (hbel'.mono (show w.heap.size ≤ w2.heap.size + 1 by omega)))
          have hs' : w2.heap.size + 1 ≤ w'.heap.size := by omega
          have hacc2 : (ctx n f q (k + 1)).map ((acc ++ [49 + k]) ++ ·) = rc := by
            rw [← HM2.out, Option.map_map]
            congr 1
            funext t
            simp
          have HA2 := Lib.hid hacc2
          clear hnew' hnew2 hbel' hkeep hacc2
          go_wp2
          go_roundg q
          case measure => omega
          case rel => exact ⟨k + 1, acc ++ [49 + k], by omega, by omega, by go_num, by simp; omega, HA2.out, HN'.out, HR'.out, HD'.out, hs', HB'.out⟩
        · rw [if_neg hp] at hm
          have hp' : ((f k : Int) == ((49 + k : Nat) : Int)) = false := by simp; omega
          by_cases hsw : k + 1 < n ∧ f k = 50 + k ∧ f (k + 1) = 49 + k
          · rw [if_pos hsw] at hm
            have HM2 := Lib.hid hm
            obtain ⟨s1, s2, s3⟩ := hsw
            have c3 := HROW.out.cell (k + 1) (dig8_get f (k + 1) (by omega))
            have c4 := HRD.out.cell (k + 1) (dig8_get (rdf n) (k + 1) (by omega))
            have hrk2 : rdf n (k + 1) = 50 + k := by simp [rdf, s1]; omega
            rw [hrk2] at c4
            rw [s2] at c1 hp' b1
            rw [s3] at c3
            have s1' : (k : Int) + 1 < n := by omega
            clear hm HA hp s2 s3
            go_wp2
            go_quiet (fail)
            go_wp2
            go_quiet (fail)
            go_wp2
            go_roundg q
            case measure => omega
            case rel => exact ⟨k + 2, acc, by omega, by omega, by go_num, by omega, HM2.out, HN.out.drewN _, HROW.out, HRD.out, hsz, below_drewN HB.out _⟩
          · rw [if_neg hsw] at hm
            have hres : chEnd res = .tuple #[.string ⟨#[]⟩, .bool false] := by rw [HRC.out, ← hm]; rfl
            clear hm HA hp
            by_cases s1 : k + 1 < n
            · have s1' : (k : Int) + 1 < n := by omega
              have c3 := HROW.out.cell (k + 1) (dig8_get f (k + 1) (by omega))
              have c4 := HRD.out.cell (k + 1) (dig8_get (rdf n) (k + 1) (by omega))
              have hrk2 : rdf n (k + 1) = 50 + k := by simp [rdf, s1]; omega
              rw [hrk2] at c4
              by_cases s2 : f k = 50 + k
              · have s3 : ((f (k + 1) : Int) == ((49 + k : Nat) : Int)) = false := by
                  have : ¬ f (k + 1) = 49 + k := fun h => hsw ⟨s1, s2, h⟩
                  simp; omega
                have b2 : (f (k + 1) : Int) < 256 := by have := HF.out.byte (k + 1); omega
                rw [s2] at c1 hp' b1
                clear hsw s2
                go_wp2
                go_quiet (fail)
                go_wp2
                go_quiet (fail)
                go_wp2
                go_ret2
                exact ⟨by first | rfl | (rw [hres]; rfl), below_drewN (below_drewN HB.out _) _⟩
              · have s3 : ((f k : Int) == (50 + (k : Int))) = false := by simp; omega
                have s4 : decide ((k : Int) + 1 < (n : Int)) = true := by simp; omega
                clear hsw s2
                go_wp2
                go_quiet (fail)
                go_wp2
                go_quiet (fail)
                go_wp2
                go_ret2
                exact ⟨by first | rfl | (rw [hres]; rfl), below_drewN (below_drewN HB.out _) _⟩
            · have s1' : decide ((k : Int) + 1 < (n : Int)) = false := by simp; omega
              clear hsw s1
              go_wp2
              go_quiet (fail)
              go_wp2
              go_quiet (fail)
              go_wp2
              go_ret2
              exact ⟨by first | rfl | (rw [hres]; rfl), below_drewN (below_drewN HB.out _) _⟩
      · have hki : ¬ (k : Int) < (n : Int) := by omega
        have hm := HA.out
        rw [ctx_end n f _ _ hlt] at hm
        have hrc : res = dashOf (some acc) := by rw [HRC.out, ← hm]; simp
        obtain ⟨a, cap, hv, ha⟩ := HN.out.own.view
        rw [byts_len] at hv ha
        subst hv
        cases acc with
        | nil =>
          have hres : chEnd res = .tuple #[.string (txt [45]), .bool true] := by rw [hrc]; rfl
          have hz : (([] : List Nat).length : Int) = 0 := rfl
          clear hrc hm HA
          go_wp2
          go_ret2
          exact ⟨by first | rfl | (rw [hres]; rfl), HB.out⟩
        | cons b t =>
          have hres : chEnd res = .tuple #[.string (txt (b :: t)), .bool true] := by rw [hrc]; rfl
          obtain ⟨g, rfl⟩ := ha (by simp)
          have hconv := conv_dig wr g (b :: t).length cap (fun i => (b :: t).getD i 0) (fun i hi => HN.out.own.cell i _ (by
            simp only [byts, List.getElem?_map, List.getElem?_eq_getElem hi, Option.map_some, List.getD_eq_getElem?_getD, Option.getD_some]))
          rw [strOf_txt] at hconv
          have hl : (((b :: t).length : Nat) : Int) = (t.length : Int) + 1 := by simp
          generalize hT : txt (b :: t) = T at *
          generalize (b :: t).length = L at *
          have hl1 : (1 : Int) ≤ L := by omega
          have hl2 : (L : Int) ≤ 8 := by omega
          clear hrc hm HA hl
          go_wp2
          go_ret2
          exact ⟨by first | rfl | (rw [hres]; rfl), HB.out⟩
end Go.Proofs.Ytkeighlcdnfjcaa
