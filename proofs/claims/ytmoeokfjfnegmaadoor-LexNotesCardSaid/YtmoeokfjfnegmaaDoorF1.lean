/-
  LexNotes: the law's walk.
-/
import Derived.Test.YtmoeokfjfnegmaaDoorE1
import Derived.Test.YtmoeokfjfnegmaaDoorM4
import Derived.Lib.SmallJoins
namespace Go.Proofs.YtmoeokfjfnegmaaDoor
open Go.RowKit

theorem lexF_bd (f k : Nat) (l : List UInt8) : (∀ t ∈ (lexF f k l).1, t.at_ < k + l.length) ∧ ∀ p, (lexF f k l).2 = some p → p < k + l.length := by
  induction f generalizing k l with
  | zero => exact ⟨fun t ht => by simp [lexF] at ht, fun p hp => by simp [lexF] at hp⟩
  | succ f ih =>
    rcases l with _ | ⟨c, r⟩
    · exact ⟨fun t ht => by simp [lexF] at ht, fun p hp => by simp [lexF] at hp⟩
    · unfold lexF
      rcases hw : wordT k (c :: r) with _ | u
      · refine ⟨fun t ht => by simp at ht, fun p hp => ?_⟩
        obtain rfl := Option.some.inj hp
        simp
      · have hs := step_le hw
        have ha := (word_has hw).1
        obtain ⟨h1, h2⟩ := ih (k + stepN (c :: r) u) ((c :: r).drop (stepN (c :: r) u))
        rw [List.length_drop] at h1 h2
        refine ⟨fun t ht => ?_, fun p hp => ?_⟩
        · rcases List.mem_cons.mp ht with rfl | ht
          · rw [ha]; simp
          · have := h1 t ht; omega
        · have := h2 p hp; omega
theorem lexS_bd {l : List UInt8} {R : List Tk} {O : Option Nat} (h : lexS l = (R, O)) : (∀ t ∈ R, t.at_ < l.length) ∧ ∀ p, O = some p → p < l.length := by
  have hb := lexF_bd ((l.drop (skipN false l)).length + 1) (skipN false l) (l.drop (skipN false l))
  have e : lexF ((l.drop (skipN false l)).length + 1) (skipN false l) (l.drop (skipN false l)) = (R, O) := h
  have hl := skipN_le false l
  rw [e, List.length_drop] at hb
  exact ⟨fun t ht => by have := hb.1 t ht; omega, fun p hp => by have := hb.2 p hp; omega⟩

def around (nb t : ByteArray) : ByteArray := (⟨#[35]⟩ ++ nb ++ ⟨#[10]⟩ ++ t ++ ⟨#[10, 32, 35]⟩ ++ nb : ByteArray)
theorem around_lex (nb t : ByteArray) (h : ∀ b ∈ nb.data.toList, b ≠ 10) (R : List Tk) (O : Option Nat) (hL : lexS t.data.toList = (R, O)) :
    lexS (around nb t).data.toList = (R.map (Tk.later (nb.size + 2)), O.map (· + (nb.size + 2))) := by
  have e : (around nb t).data.toList = noted nb.data.toList t.data.toList := by
    unfold around noted tailL
    simp only [Joins.data_append]
    simp
  have hn : nb.data.toList.length = nb.size := by simp
  rw [e, lexS_noted _ _ h, hL, hn]
theorem around_size (nb t : ByteArray) : (around nb t).size = 2 * nb.size + t.size + 5 := by
  unfold around
  simp only [ByteArray.size_append]
  have h1 : (⟨#[35]⟩ : ByteArray).size = 1 := rfl
  have h2 : (⟨#[10]⟩ : ByteArray).size = 1 := rfl
  have h3 : (⟨#[10, 32, 35]⟩ : ByteArray).size = 3 := rfl
  omega

/-- Lex, of the text between notes. -/
theorem lex_around_bad (nb t : ByteArray) (w : World) (ht : t.size ≤ 2000) (hnb : nb.size ≤ 60) (h : Hid (∀ b ∈ nb.data.toList, b ≠ 10)) (hr : Rng w) (R : List Tk) (p : Nat) (hL : Hid (lexS t.data.toList = (R, some p))) :
    Calls Tryd.prog 9 #[.string (around nb t)] w fun e w' => e = .returned (.tuple #[.slice none 0 0, .agg #[.int .i64 1, .int .i64 ((p : Int) + nb.size + 2)]]) ∧ Below w.heap.size w w' :=
  (lex_bad (around nb t) w (by rw [around_size]; omega) hr _ (p + (nb.size + 2)) (around_lex nb t h.out R _ hL.out)).mono fun _ _ ⟨he, hb⟩ => ⟨by
    have e : ((p + (nb.size + 2) : Nat) : Int) = (p : Int) + nb.size + 2 := by omega
    rw [he, e], hb⟩
theorem lex_around_good (nb t : ByteArray) (w : World) (ht : t.size ≤ 2000) (hnb : nb.size ≤ 60) (h : Hid (∀ b ∈ nb.data.toList, b ≠ 10)) (hr : Rng w) (R : List Tk) (hL : Hid (lexS t.data.toList = (R, none))) :
    Calls Tryd.prog 9 #[.string (around nb t)] w fun e w' => ∃ g cap, e = .returned (.tuple #[.slice (some ⟨g, 0, none⟩) (R.length + 1) cap, .agg #[.int .i64 0, .int .i64 0]]) ∧ Hid (TksAt w' g (R.map (Tk.later (nb.size + 2)))) ∧ g < w'.heap.size ∧ Below w.heap.size w w' :=
  (lex_tks (around nb t) w (by rw [around_size]; omega) hr _ (around_lex nb t h.out R _ hL.out)).mono fun _ _ ⟨g, cap, he, ht, hg, hb⟩ => ⟨g, cap, by rw [he, List.length_map], tks_init ht.out, hg, hb⟩

set_option maxRecDepth 100000 in
set_option maxHeartbeats 8000000 in
theorem notes_law (s note : ByteArray) (w : World) (hs : s.size ≤ maxLen) (hn : note.size ≤ maxLen) (hr : Rng w) : Calls Tryd.prog 6 #[.string s, .string note] w fun e w' => e = .returned (.bool true) ∧ Below w.heap.size w w' := by
  have hr2 := hr.two
  unfold maxLen at hn
  go_enter Tryd.func6, Tryd.ntmps6
  go_wp2_with (go_at_call 8; refine (few_any s _ hs).mono ?_; rintro e w' ⟨t, ht, rfl, rfl⟩)
  go_loop [6, 7] (fun v a => ∃ (i : Nat) (nb : ByteArray), i ≤ 60 ∧ i ≤ note.size ∧ a = .int .i64 i ∧ v = .string nb ∧ nb.size ≤ i ∧ Hid (∀ b ∈ nb.data.toList, b ≠ 10)) (fun _ a => 60 - (intOf a).toNat)
  case atStart => exact ⟨0, ⟨#[]⟩, by omega, by omega, rfl, rfl, Nat.le_refl _, by intro b hb; simp at hb⟩
  case round =>
    obtain ⟨i, nb, hi, hin, rfl, rfl, hnb, HN⟩ := hrel
    by_cases hlt : i < note.size
    · by_cases h60 : i < 60
      · by_cases h10 : note[i].toNat = 10
        · have t1 : ((note[i].toNat : Int) == 10) = true := by simp [h10]
          go_wp2
          go_round
          case rel => exact ⟨i + 1, nb, by omega, by omega, by go_num, rfl, by omega, HN⟩
          case measure => simp [intOf]; omega
        · have t1 : ((note[i].toNat : Int) == 10) = false := by simp; omega
          have HN1 : Hid (∀ b ∈ (nb ++ note.extract i (i + 1)).data.toList, b ≠ 10) := by
            refine Lib.hid ?_
            intro b hb
            rw [Joins.data_append, extract_drop, drop_at note i hlt] at hb
            rcases List.mem_append.mp hb with hb | hb
            · exact HN.out b hb
            · simp at hb
              subst hb
              intro e
              exact h10 (by rw [e]; rfl)
          have hsz : (nb ++ note.extract i (i + 1)).size ≤ i + 1 := by rw [ByteArray.size_append, ByteArray.size_extract]; omega
          go_wp2
          go_round
          case rel => exact ⟨i + 1, nb ++ note.extract i (i + 1), by omega, by omega, by go_num, rfl, hsz, HN1⟩
          case measure => simp [intOf]; omega
      · have hnb6 : nb.size ≤ 60 := by omega
        obtain ⟨R, O, hL⟩ : ∃ R O, lexS t.data.toList = (R, O) := ⟨_, _, rfl⟩
        have hbd := lexS_bd hL
        have hRl : R.length ≤ t.size := by
          have h := lexS_len t.data.toList
          rw [hL, Array.length_toList] at h
          exact h
        rw [Array.length_toList] at hbd
        have htd : t.data.size = t.size := rfl
        rw [htd] at hbd
        obtain ⟨hbt, hbp⟩ := hbd
        replace hL := Lib.hid hL
        replace hbt := Lib.hid hbt
        clear htd
        rcases O with _ | p
        · clear hbp
          go_wp2_with (fail)
          refine (lex_tks t _ (by omega) hr R hL).mono ?_
          rintro e w1 ⟨g1, c1, rfl, T1, hg1, hb1⟩
          have hr1 : Rng (w1.alloc (.cells #[.int .i64 0, .int .i64 0] 25)) := (hr.up hb1).up ((Below.refl _ _).alloc (Nat.le_refl _) _)
          go_wp2_with (fail)
          refine (lex_around_good nb t _ ht hnb6 HN hr1 R hL).mono ?_
          rintro e w2 ⟨g2, c2, rfl, T2, hg2, hb2⟩
          have hr3 : Rng (w2.alloc (.cells #[.int .i64 0, .int .i64 0] 25)) := (hr1.up hb2).up ((Below.refl _ _).alloc (Nat.le_refl _) _)
          go_wp2_with (fail)
          refine (awake_any _ hr3).mono ?_
          rintro e w3 ⟨rfl, hb3⟩
          obtain ⟨k0, k1, k2, k3⟩ := flt_keep hb2 hb3
          have hb5 := below_alloc (below_alloc hb1 (Nat.le_refl _) hb2) (Nat.le_refl _) hb3
          have T1' := Lib.hid (T1.out.below (below_alloc (below_alloc (Below.refl _ _) (Nat.le_refl _) hb2) (Nat.le_refl _) hb3) hg1)
          have T2' := Lib.hid (T2.out.below (below_alloc (Below.refl _ _) (Nat.le_refl _) hb3) hg2)
          replace hb5 := Lib.hid hb5
          clear T1 T2 hr1 hr3 hb1 hb2 hb3 hg1 hg2
          go_wp2_with (fail)
          go_loop [12] (fun a => ∃ m : Nat, m ≤ t.size ∧ a = .int .i64 m) (fun a => t.size - (intOf a).toNat)
          case atStart => exact ⟨0, Nat.zero_le _, rfl⟩
          case round =>
            obtain ⟨m, hm, rfl⟩ := hrel
            by_cases hmt : m < t.size
            · by_cases hh : t[m].toNat = 35
              · have t2 : ((t[m].toNat : Int) == 35) = true := by simp [hh]
                go_wp2_with (fail)
                go_ret
                exact ⟨rfl, hb5.out⟩
              · have t2 : ((t[m].toNat : Int) == 35) = false := by simp; omega
                go_wp2_with (fail)
                go_round
                case rel => exact ⟨m + 1, by omega, by go_num⟩
                case measure => simp [intOf]; omega
            · go_wp2_with (fail)
              go_loopw [13] (fun a wr => ∃ m : Nat, m ≤ R.length ∧ a = .int .i64 m ∧ ∃ q, wr = w3.drewN q) (fun a _ => R.length - (intOf a).toNat)
              case atStart => exact ⟨0, Nat.zero_le _, rfl, 0, rfl⟩
              case round =>
                obtain ⟨n, hn2, rfl, q, rfl⟩ := hrel
                by_cases hnR : n < R.length
                · obtain ⟨⟨kd, a, nm, bs⟩, hT⟩ : ∃ T, R[n]? = some T := ⟨_, List.getElem?_eq_getElem hnR⟩
                  obtain ⟨_, a1, _, a3⟩ := tks_init T1'.out n _ hT
                  obtain ⟨_, b1, _, b3⟩ := T2'.out n _ (show (R.map (Tk.later (nb.size + 2)))[n]? = some (Tk.later (nb.size + 2) ⟨kd, a, nm, bs⟩) by rw [List.getElem?_map, hT]; rfl)
                  have ha : a < t.size := hbt.out _ (List.mem_of_getElem? hT)
                  have e1 : (((Tk.later (nb.size + 2) ⟨kd, a, nm, bs⟩).at_ : Nat) : Int) = (a : Int) + (nb.size : Int) + 2 := by
                    show ((a + (nb.size + 2) : Nat) : Int) = _
                    omega
                  rw [e1] at b1
                  replace b3 : w3.cell? ⟨g2, n * 4 + 3, none⟩ = some (.string ⟨bs.toArray⟩) := b3
                  have s1 : IntKind.i64.wrap ((a : Int) + (nb.size : Int)) = (a : Int) + (nb.size : Int) := IntWalk.i64_in _ (by omega)
                  have s2 : IntKind.i64.wrap ((a : Int) + (nb.size : Int) + 2) = (a : Int) + (nb.size : Int) + 2 := IntWalk.i64_in _ (by omega)
                  clear e1
                  replace hT := Lib.hid hT
                  go_wp2_with (fail)
                  go_quiet (fail)
                  go_wp2_with (fail)
                  go_roundw
                  case rel => exact ⟨n + 1, by omega, by go_num, _, rfl⟩
                  case measure => simp [intOf]; omega
                · go_wp2_with (fail)
                  go_ret
                  exact ⟨rfl, hb5.out.trans ((drewN_below _ _).mono hb5.out.size)⟩
        · have hp : p < t.size := hbp p rfl
          clear hbp
          go_wp2_with (fail)
          refine (lex_bad t _ (by omega) hr R p hL).mono ?_
          rintro e w1 ⟨rfl, hb1⟩
          have hr1 : Rng (w1.alloc (.cells #[.int .i64 1, .int .i64 p] 25)) := (hr.up hb1).up ((Below.refl _ _).alloc (Nat.le_refl _) _)
          go_wp2_with (fail)
          refine (lex_around_bad nb t _ ht hnb6 HN hr1 R p hL).mono ?_
          rintro e w2 ⟨rfl, hb2⟩
          have hr3 : Rng (w2.alloc (.cells #[.int .i64 1, .int .i64 ((p : Int) + nb.size + 2)] 25)) := (hr1.up hb2).up ((Below.refl _ _).alloc (Nat.le_refl _) _)
          go_wp2_with (fail)
          refine (awake_any _ hr3).mono ?_
          rintro e w3 ⟨rfl, hb3⟩
          obtain ⟨k0, k1, k2, k3⟩ := flt_keep hb2 hb3
          have hb5 := below_alloc (below_alloc hb1 (Nat.le_refl _) hb2) (Nat.le_refl _) hb3
          have hr4 := hr3.up hb3
          have hs2 := hb2.size
          have hs3 := hb3.size
          simp at hs2 hs3
          replace hb5 := Lib.hid hb5
          clear hr1 hr3 hb1 hb2 hb3
          go_wp2_with (fail)
          refine (awake_any _ hr4).mono ?_
          rintro e w4 ⟨rfl, hb4⟩
          have m0 := (hb4.cell (p := ⟨w1.heap.size, 0, none⟩) (show w1.heap.size < w3.heap.size by omega)).trans k0
          have m1 := (hb4.cell (p := ⟨w1.heap.size, 1, none⟩) (show w1.heap.size < w3.heap.size by omega)).trans k1
          have m2 := (hb4.cell (p := ⟨w2.heap.size, 0, none⟩) (show w2.heap.size < w3.heap.size by omega)).trans k2
          have m3 := (hb4.cell (p := ⟨w2.heap.size, 1, none⟩) (show w2.heap.size < w3.heap.size by omega)).trans k3
          clear k0 k1 k2 k3
          go_wp2_with (fail)
          go_ret
          exact ⟨rfl, hb5.out.trans (hb4.mono hb5.out.size)⟩
    · have hnb6 : nb.size ≤ 60 := by omega
      obtain ⟨R, O, hL⟩ : ∃ R O, lexS t.data.toList = (R, O) := ⟨_, _, rfl⟩
      have hbd := lexS_bd hL
      have hRl : R.length ≤ t.size := by
        have h := lexS_len t.data.toList
        rw [hL, Array.length_toList] at h
        exact h
      rw [Array.length_toList] at hbd
      have htd : t.data.size = t.size := rfl
      rw [htd] at hbd
      obtain ⟨hbt, hbp⟩ := hbd
      replace hL := Lib.hid hL
      replace hbt := Lib.hid hbt
      clear htd
      rcases O with _ | p
      · clear hbp
        go_wp2_with (fail)
        refine (lex_tks t _ (by omega) hr R hL).mono ?_
        rintro e w1 ⟨g1, c1, rfl, T1, hg1, hb1⟩
        have hr1 : Rng (w1.alloc (.cells #[.int .i64 0, .int .i64 0] 25)) := (hr.up hb1).up ((Below.refl _ _).alloc (Nat.le_refl _) _)
        go_wp2_with (fail)
        refine (lex_around_good nb t _ ht hnb6 HN hr1 R hL).mono ?_
        rintro e w2 ⟨g2, c2, rfl, T2, hg2, hb2⟩
        have hr3 : Rng (w2.alloc (.cells #[.int .i64 0, .int .i64 0] 25)) := (hr1.up hb2).up ((Below.refl _ _).alloc (Nat.le_refl _) _)
        go_wp2_with (fail)
        refine (awake_any _ hr3).mono ?_
        rintro e w3 ⟨rfl, hb3⟩
        obtain ⟨k0, k1, k2, k3⟩ := flt_keep hb2 hb3
        have hb5 := below_alloc (below_alloc hb1 (Nat.le_refl _) hb2) (Nat.le_refl _) hb3
        have T1' := Lib.hid (T1.out.below (below_alloc (below_alloc (Below.refl _ _) (Nat.le_refl _) hb2) (Nat.le_refl _) hb3) hg1)
        have T2' := Lib.hid (T2.out.below (below_alloc (Below.refl _ _) (Nat.le_refl _) hb3) hg2)
        replace hb5 := Lib.hid hb5
        clear T1 T2 hr1 hr3 hb1 hb2 hb3 hg1 hg2
        go_wp2_with (fail)
        go_loop [12] (fun a => ∃ m : Nat, m ≤ t.size ∧ a = .int .i64 m) (fun a => t.size - (intOf a).toNat)
        case atStart => exact ⟨0, Nat.zero_le _, rfl⟩
        case round =>
          obtain ⟨m, hm, rfl⟩ := hrel
          by_cases hmt : m < t.size
          · by_cases hh : t[m].toNat = 35
            · have t2 : ((t[m].toNat : Int) == 35) = true := by simp [hh]
              go_wp2_with (fail)
              go_ret
              exact ⟨rfl, hb5.out⟩
            · have t2 : ((t[m].toNat : Int) == 35) = false := by simp; omega
              go_wp2_with (fail)
              go_round
              case rel => exact ⟨m + 1, by omega, by go_num⟩
              case measure => simp [intOf]; omega
          · go_wp2_with (fail)
            go_loopw [13] (fun a wr => ∃ m : Nat, m ≤ R.length ∧ a = .int .i64 m ∧ ∃ q, wr = w3.drewN q) (fun a _ => R.length - (intOf a).toNat)
            case atStart => exact ⟨0, Nat.zero_le _, rfl, 0, rfl⟩
            case round =>
              obtain ⟨n, hn2, rfl, q, rfl⟩ := hrel
              by_cases hnR : n < R.length
              · obtain ⟨⟨kd, a, nm, bs⟩, hT⟩ : ∃ T, R[n]? = some T := ⟨_, List.getElem?_eq_getElem hnR⟩
                obtain ⟨_, a1, _, a3⟩ := tks_init T1'.out n _ hT
                obtain ⟨_, b1, _, b3⟩ := T2'.out n _ (show (R.map (Tk.later (nb.size + 2)))[n]? = some (Tk.later (nb.size + 2) ⟨kd, a, nm, bs⟩) by rw [List.getElem?_map, hT]; rfl)
                have ha : a < t.size := hbt.out _ (List.mem_of_getElem? hT)
                have e1 : (((Tk.later (nb.size + 2) ⟨kd, a, nm, bs⟩).at_ : Nat) : Int) = (a : Int) + (nb.size : Int) + 2 := by
                  show ((a + (nb.size + 2) : Nat) : Int) = _
                  omega
                rw [e1] at b1
                replace b3 : w3.cell? ⟨g2, n * 4 + 3, none⟩ = some (.string ⟨bs.toArray⟩) := b3
                have s1 : IntKind.i64.wrap ((a : Int) + (nb.size : Int)) = (a : Int) + (nb.size : Int) := IntWalk.i64_in _ (by omega)
                have s2 : IntKind.i64.wrap ((a : Int) + (nb.size : Int) + 2) = (a : Int) + (nb.size : Int) + 2 := IntWalk.i64_in _ (by omega)
                clear e1
                replace hT := Lib.hid hT
                go_wp2_with (fail)
                go_quiet (fail)
                go_wp2_with (fail)
                go_roundw
                case rel => exact ⟨n + 1, by omega, by go_num, _, rfl⟩
                case measure => simp [intOf]; omega
              · go_wp2_with (fail)
                go_ret
                exact ⟨rfl, hb5.out.trans ((drewN_below _ _).mono hb5.out.size)⟩
      · have hp : p < t.size := hbp p rfl
        clear hbp
        go_wp2_with (fail)
        refine (lex_bad t _ (by omega) hr R p hL).mono ?_
        rintro e w1 ⟨rfl, hb1⟩
        have hr1 : Rng (w1.alloc (.cells #[.int .i64 1, .int .i64 p] 25)) := (hr.up hb1).up ((Below.refl _ _).alloc (Nat.le_refl _) _)
        go_wp2_with (fail)
        refine (lex_around_bad nb t _ ht hnb6 HN hr1 R p hL).mono ?_
        rintro e w2 ⟨rfl, hb2⟩
        have hr3 : Rng (w2.alloc (.cells #[.int .i64 1, .int .i64 ((p : Int) + nb.size + 2)] 25)) := (hr1.up hb2).up ((Below.refl _ _).alloc (Nat.le_refl _) _)
        go_wp2_with (fail)
        refine (awake_any _ hr3).mono ?_
        rintro e w3 ⟨rfl, hb3⟩
        obtain ⟨k0, k1, k2, k3⟩ := flt_keep hb2 hb3
        have hb5 := below_alloc (below_alloc hb1 (Nat.le_refl _) hb2) (Nat.le_refl _) hb3
        have hr4 := hr3.up hb3
        have hs2 := hb2.size
        have hs3 := hb3.size
        simp at hs2 hs3
        replace hb5 := Lib.hid hb5
        clear hr1 hr3 hb1 hb2 hb3
        go_wp2_with (fail)
        refine (awake_any _ hr4).mono ?_
        rintro e w4 ⟨rfl, hb4⟩
        have m0 := (hb4.cell (p := ⟨w1.heap.size, 0, none⟩) (show w1.heap.size < w3.heap.size by omega)).trans k0
        have m1 := (hb4.cell (p := ⟨w1.heap.size, 1, none⟩) (show w1.heap.size < w3.heap.size by omega)).trans k1
        have m2 := (hb4.cell (p := ⟨w2.heap.size, 0, none⟩) (show w2.heap.size < w3.heap.size by omega)).trans k2
        have m3 := (hb4.cell (p := ⟨w2.heap.size, 1, none⟩) (show w2.heap.size < w3.heap.size by omega)).trans k3
        clear k0 k1 k2 k3
        go_wp2_with (fail)
        go_ret
        exact ⟨rfl, hb5.out.trans (hb4.mono hb5.out.size)⟩
end Go.Proofs.YtmoeokfjfnegmaaDoor
