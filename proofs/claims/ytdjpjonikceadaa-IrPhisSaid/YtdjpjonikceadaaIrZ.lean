/-
  A block ends with nothing again.
-/
import Derived.Test.YtdjpjonikceadaaIrY
namespace Go.Proofs.Ytdjpjonikceadaa
open Go.RowKit
set_option linter.unusedVariables false
set_option linter.unusedSimpArgs false

/-- What is left of the rows when a block is cut. -/
def cutF (F : Nat → Rw) (kp g N c gi ci n k : Nat) (pred : Int) (ps args : List Int) (bs : List Value) (P' Q' : Value) : Nat → Rw :=
  upR (upR (upR (upR (upR F kp (rowI P' (woA ps ps pred ps.length))) 0 ⟨46, 5, .slice (some ⟨g, 0, none⟩) N c, N, bs.set (n * 5 + 1) P'⟩) 2 (rowI Q' (woA ps args pred args.length))) 1 ⟨38, 5, .slice (some ⟨gi, 0, none⟩) 1 ci, 1, [.int .i64 3, .int .i64 0, Q', .int .i64 0, .int .i64 0]⟩) 0 ⟨46, 5, .slice (some ⟨g, 0, none⟩) N c, N, (((bs.set (n * 5 + 1) P').set (k * 5 + 2) (.int .i64 0)).set (k * 5 + 3) (.int .i64 0)).set (k * 5 + 4) (.slice none 0 0)⟩

set_option maxRecDepth 100000 in
set_option maxHeartbeats 16000000 in
theorem cut_any (k kt tb ct : Nat) (kp kl : Nat) (hkp : 2 < kp) (hkl : 2 < kl) (E base N n g c gi ci gl cl : Nat) (pred kd ar : Int) (ps args : List Int) (PV QV TV : Value) (bs : List Value) (F : Nat → Rw) (w : World) (hE : EdC w E (.slice (some ⟨gi, 0, none⟩) 1 ci) (.slice (some ⟨g, 0, none⟩) N c)) (hF : Fam w base E F)
    (h0 : F 0 = ⟨46, 5, .slice (some ⟨g, 0, none⟩) N c, N, bs⟩) (h1 : F 1 = ⟨38, 5, .slice (some ⟨gi, 0, none⟩) 1 ci, 1, [.int .i64 3, .int .i64 0, QV, .int .i64 0, .int .i64 0]⟩) (h2 : F 2 = rowI QV args) (hP : F kp = rowI PV ps) (hL : F kl = rowI (.slice (some ⟨gl, 0, none⟩) 1 cl) [0])
    (hn : n < N) (b0 : bs[n * 5]? = some (.slice (some ⟨gl, 0, none⟩) 1 cl)) (b1 : bs[n * 5 + 1]? = some PV) (b2 : bs[n * 5 + 2]? = some (.int .i64 kd)) (b3 : bs[n * 5 + 3]? = some (.int .i64 ar)) (b4 : bs[n * 5 + 4]? = some TV)
    (hb : base ≤ w.heap.size) (hm : ps.length ≤ 1000) (hlen : args.length = ps.length) (hx : pred ∈ ps) (hkt : 2 < kt) (hkN : k < N) (hkn : k ≠ n) (hpk : pred = k) (hTk : F kt = rowI (.slice (some ⟨tb, 0, none⟩) 1 ct) [(n : Int)]) (bT : bs[k * 5 + 4]? = some (.slice (some ⟨tb, 0, none⟩) 1 ct)) :
    Calls Try.prog 16 #[.pointer (some ⟨E, 0, none⟩), .int .i64 k] w fun e w' => e = .returned (.tuple #[]) ∧ Bd E base w w' ∧ EdC w' E (.slice (some ⟨gi, 0, none⟩) 1 ci) (.slice (some ⟨g, 0, none⟩) N c) ∧ ∃ P' Q', Fam w' base E (cutF F kp g N c gi ci n k pred ps args bs P' Q') := by
  subst hpk
  have hB := block_ptr E k N g c _ w hE hkN
  have hLo := lose_any kp kl hkp hkl E base N n g c gi ci gl cl k kd ar ps args PV QV TV bs F w hE hF h0 h1 h2 hP hL hn b0 b1 b2 b3 b4 hb hm hlen hx
  have hBo : w.ownsRow base 46 5 (.slice (some ⟨g, 0, none⟩) N c) N bs := hF.at h0
  have hbs : bs.length = N * 5 := hBo.1
  have t4 : w.cell? ⟨g, k * 5 + 4, none⟩ = some (.slice (some ⟨tb, 0, none⟩) 1 ct) := (hBo.cellAt (k * 5 + 4) (by omega)).trans bT
  have t0 : w.cell? ⟨tb, 0, none⟩ = some (.int .i64 n) := (hF.at hTk).cellAt 0 (by show 0 < 1 * 1; decide)
  have hgb : base ≤ g := (hBo.lt g rfl).1
  have hEg : E ≠ g := by intro e; have := hF.av 0; rw [h0] at this; exact this (by rw [e]; rfl)
  have Hb := Lib.hid hb
  have Hgb := Lib.hid hgb
  have HEg := Lib.hid hEg
  clear hE hF h0 h1 h2 hP hL b0 b1 b2 b3 b4 hb hm hlen hx hBo hbs hgb hEg bT hTk
  go_enter Try.func16, Try.ntmps16
  go_upto_region 3 with (go_at_call 22; refine hB.mono ?_; rintro e w1 ⟨rfl, rfl⟩)
  refine wp_loop_rounds 2 ?_
  rw [rounds_succ]
  go_wp2_with (go_at_call 28; refine hLo.mono ?_; rintro e w2 ⟨rfl, hd2, hE2, P', Q', hF2⟩; have Hd2 := Lib.hid hd2; have HE2 := Lib.hid hE2; have HF2 := Lib.hid hF2; clear hd2 hE2 hF2 hLo)
  have hk0 := upR_off (upR (upR (upR F kp (rowI P' (woA ps ps k ps.length))) 0 ⟨46, 5, (.slice (some ⟨g, 0, none⟩) N c), N, bs.set (n * 5 + 1) P'⟩) 2 (rowI Q' (woA ps args k args.length))) 1 0 ⟨38, 5, (.slice (some ⟨gi, 0, none⟩) 1 ci), 1, [.int .i64 3, .int .i64 0, Q', .int .i64 0, .int .i64 0]⟩ (by decide)
  rw [upR_off _ 2 0 _ (by decide), upR_at] at hk0
  have hB2 := HF2.out.at hk0
  obtain ⟨u2, q2⟩ := own_some hB2 (k * 5 + 2) (by show k * 5 + 2 < N * 5; omega)
  obtain ⟨u3, q3⟩ := own_some hB2 (k * 5 + 3) (by show k * 5 + 3 < N * 5; omega)
  obtain ⟨u4, q4⟩ := own_some hB2 (k * 5 + 4) (by show k * 5 + 4 < N * 5; omega)
  have qf := hB2.frozenAt
  obtain ⟨hF3, g3⟩ := HF2.out.put hk0 (k * 5 + 2) (.int .i64 0)
  obtain ⟨hF4, g4⟩ := hF3.put (upR_at _ _ _) (k * 5 + 3) (.int .i64 0)
  obtain ⟨hF5, g5⟩ := hF4.put (upR_at _ _ _) (k * 5 + 4) (.slice none 0 0)
  rw [upR_two, upR_two] at hF5
  obtain ⟨w3, hw3⟩ : ∃ w3, w3 = ((w2.setCell ⟨g, k * 5 + 2, none⟩ (.int .i64 0)).setCell ⟨g, k * 5 + 3, none⟩ (.int .i64 0)).setCell ⟨g, k * 5 + 4, none⟩ (.slice none 0 0) := ⟨_, rfl⟩
  rw [← hw3] at hF5 g5
  have hgg : w2.grownBy w3 (some g) := ⟨g5.os.trans (g4.os.trans g3.os), g5.tape.trans (g4.tape.trans g3.tape), g5.output.trans (g4.output.trans g3.output), Nat.le_trans g3.size (Nat.le_trans g4.size g5.size), fun j hj hne => (g5.block j (by have := g3.size; have := g4.size; omega) hne).trans ((g4.block j (by have := g3.size; omega) hne).trans (g3.block j hj hne))⟩
  have hE3 : EdC w3 E (.slice (some ⟨gi, 0, none⟩) 1 ci) (.slice (some ⟨g, 0, none⟩) N c) := (hgg.block E HF2.out.el (fun e => HEg.out (by injection e))).trans HE2.out
  have hd3 := Hd2.out.trans (Bd.of_grown hgg (fun g' e => by injection e with e; have := Hgb.out; omega) (Nat.le_trans Hb.out Hd2.out.size))
  have Hend := Lib.hid (And.intro hd3 (And.intro hE3 hF5))
  have Hw3 := Lib.hid hw3
  have e3 : k * 5 + 2 + 1 = k * 5 + 3 := rfl
  have e4 : k * 5 + 2 + 2 = k * 5 + 4 := rfl
  clear hk0 hB2 hF3 g3 hF4 g4 hF5 g5 hw3 hgg hE3 hd3 t4 t0 hB e3 e4
  rw [rounds_succ]
  go_wp2
  rw [show k * 5 + 2 + 1 = k * 5 + 3 from rfl, show k * 5 + 2 + 2 = k * 5 + 4 from rfl, ← Hw3.out]
  go_end0
  exact ⟨rfl, Hend.out.1, Hend.out.2.1, P', Q', Hend.out.2.2⟩

set_option maxRecDepth 100000 in
/-- An end that is none, or a jump, has no Arg. -/
theorem hasArg_no (kd ar : Int) (T : Value) (w : World) (h2 : (kd == 2) = false) (h3 : (kd == 3) = false) :
    Calls Try.prog 30 #[.agg #[.int .i64 kd, .int .i64 ar, T]] w fun e w' => e = .returned (.bool false) ∧ Below w.heap.size w w' := by
  obtain ⟨W, hW, hbW, hzW, h0⟩ := r_one_al w #[.int .i64 kd, .int .i64 ar, T] 34
  have c0 := Lib.cell_of_heap h0 0
  have HW := Lib.hid hW
  have HbW := Lib.hid hbW
  clear hW hbW h0
  go_enter Try.func30, Try.ntmps30
  go_upto_region 1 with fail
  rw [← HW.out]
  go_wp2
  go_ret
  exact ⟨rfl, HbW.out⟩

def swapL (l : List Int) (old by_ : Int) (i : Nat) : List Int := (l.take i).map (fun x => if x == old then by_ else x) ++ l.drop i
theorem swapL_len (l : List Int) (old by_ : Int) (i : Nat) (hi : i ≤ l.length) : (swapL l old by_ i).length = l.length := by
  simp [swapL]; omega
theorem swapL_at (l : List Int) (old by_ : Int) (i : Nat) (hi : i < l.length) : (swapL l old by_ i)[i]? = some l[i] := by
  unfold swapL
  rw [List.getElem?_append_right (by simp; omega)]
  simp [Nat.min_eq_left (Nat.le_of_lt hi), hi]
theorem swapL_succ (l : List Int) (old by_ : Int) (i : Nat) (hi : i < l.length) : swapL l old by_ (i + 1) = (swapL l old by_ i).set i (if l[i] == old then by_ else l[i]) := by
  unfold swapL
  have hlen : ((l.take i).map (fun x => if x == old then by_ else x)).length = i := by simp; omega
  rw [List.take_succ_eq_append_getElem hi, List.map_append, List.drop_eq_getElem_cons hi]
  apply List.ext_getElem?
  intro j
  rcases Nat.lt_trichotomy j i with h | h | h
  · rw [List.getElem?_set_ne (by omega), List.append_assoc, List.getElem?_append_left (by omega), List.getElem?_append_left (by omega)]
  · subst h
    rw [List.getElem?_set_self (by simp; omega), List.append_assoc, List.getElem?_append_right (by omega), hlen]
    simp
  · obtain ⟨d, rfl⟩ : ∃ d, j = i + 1 + d := ⟨j - i - 1, by omega⟩
    have key : ∀ (A : List Int) (y : Int) (D : List Int), A.length = i → (A ++ y :: D)[i + 1 + d]? = D[d]? := fun A y D hA => by
      rw [List.getElem?_append_right (by omega), show i + 1 + d - A.length = d + 1 by omega]
      rfl
    rw [List.getElem?_set_ne (by omega)]
    simp only [List.map_cons, List.map_nil, List.append_assoc, List.cons_append, List.nil_append]
    rw [key _ _ _ hlen, key _ _ _ hlen]
theorem set_same {l : List Value} {i : Nat} {v : Value} (h : l[i]? = some v) : l.set i v = l := by
  apply List.ext_getElem?
  intro j
  by_cases hj : j = i
  · subst hj
    have := (List.getElem?_eq_some_iff.mp h).1
    rw [List.getElem?_set_self this, h]
  · rw [List.getElem?_set_ne (by omega)]

set_option maxRecDepth 100000 in
set_option maxHeartbeats 8000000 in
/-- A number in the place of each one that is another one. -/
theorem swap_any (base b c : Nat) (l : List Int) (old by_ : Int) (w : World) (hl : l.length ≤ 1000) (h : w.ownsRow base 3 1 (.slice (some ⟨b, 0, none⟩) l.length c) l.length (ints l)) :
    Calls Try.prog 29 #[.slice (some ⟨b, 0, none⟩) l.length c, .int .i64 old, .int .i64 by_] w fun e w' => e = .returned (.tuple #[]) ∧ w.grownBy w' (some b) ∧ w'.ownsRow base 3 1 (.slice (some ⟨b, 0, none⟩) l.length c) l.length (ints (swapL l old by_ l.length)) := by
  obtain ⟨m, hm⟩ : ∃ m, m = l.length := ⟨_, rfl⟩
  have Hm := Lib.hid hm
  have H := Lib.hid h
  rw [← hm] at hl ⊢
  rw [← hm] at H
  clear hm h
  go_enter Try.func29, Try.ntmps29
  go_wp2
  go_loopw [10] (fun u10 wr => ∃ i : Nat, i ≤ m ∧ u10 = .int .i64 i ∧ Hid (w.grownBy wr (some b)) ∧ Hid (wr.ownsRow base 3 1 (.slice (some ⟨b, 0, none⟩) m c) m (ints (swapL l old by_ i)))) (fun u10 _ => m - (intOf u10).toNat)
  case atStart =>
    have h0 : swapL l old by_ 0 = l := by simp [swapL]
    refine ⟨0, Nat.zero_le _, rfl, Lib.hid ⟨rfl, rfl, rfl, Nat.le_refl _, fun _ _ _ => rfl⟩, ?_⟩
    rw [h0]
    exact H
  case round =>
    obtain ⟨i, hi, rfl, HG, HO⟩ := hrel
    by_cases hlt : i < m
    · have hil : i < l.length := by rw [← Hm.out]; exact hlt
      have hx : wr.cell? ⟨b, i, none⟩ = some (.int .i64 l[i]) := by
        rw [HO.out.cellAt i (by omega)]
        simp [ints, swapL_at l old by_ i hil]
      have hf := HO.out.frozenAt i
      have hS := swapL_succ l old by_ i hil
      have hat := swapL_at l old by_ i hil
      obtain ⟨y, hy⟩ : ∃ y, y = l[i] := ⟨_, rfl⟩
      rw [← hy] at hx hS hat
      have hst := HO.out.stored i (.int .i64 by_)
      have Hst := Lib.hid hst
      have HS := Lib.hid hS
      have Hat := Lib.hid hat
      clear hst hS hat hy
      cases hq : (y == old) with
      | true =>
        go_wp2
        go_roundw
        case rel => exact ⟨i + 1, by omega, by go_num, Lib.hid ⟨Hst.out.2.os.trans HG.out.os, Hst.out.2.tape.trans HG.out.tape, Hst.out.2.output.trans HG.out.output, Nat.le_trans HG.out.size Hst.out.2.size, fun j hj hn => (Hst.out.2.block j (Nat.lt_of_lt_of_le hj HG.out.size) hn).trans (HG.out.block j hj hn)⟩, Lib.hid (by
          rw [HS.out, hq, if_pos rfl]
          have e : ints ((swapL l old by_ i).set i by_) = (ints (swapL l old by_ i)).set i (.int .i64 by_) := by simp [ints, List.map_set]
          rw [e]; exact Hst.out.1)⟩
        case measure => simp [intOf]; omega
      | false =>
        go_wp2
        go_roundw
        case rel => exact ⟨i + 1, by omega, by go_num, HG, Lib.hid (by
          rw [HS.out, hq, if_neg (by simp)]
          have e : (swapL l old by_ i).set i y = swapL l old by_ i := by
            apply List.ext_getElem?
            intro j
            by_cases hj : j = i
            · subst hj
              rw [List.getElem?_set_self (List.getElem?_eq_some_iff.mp Hat.out).1, Hat.out]
            · rw [List.getElem?_set_ne (by omega)]
          rw [e]; exact HO.out)⟩
        case measure => simp [intOf]; omega
    · obtain rfl : i = m := by omega
      go_wp2
      go_end0
      exact ⟨rfl, HG.out, HO.out⟩
end Go.Proofs.Ytdjpjonikceadaa
