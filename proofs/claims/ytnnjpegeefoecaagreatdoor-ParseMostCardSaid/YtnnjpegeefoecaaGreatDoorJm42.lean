/-
  A function, printed: its arguments' texts.
  A function, printed.
  A program, printed.
  What 'awake' asks, over plain data.
  The fourth law's 'awake'.
  The fourth law's 'ParseMost'.
-/
import Derived.Test.YtnnjpegeefoecaaGreatDoorJm26
import Derived.Test.YtnnjpegeefoecaaGreatDoorJm31
import Derived.Test.YtnnjpegeefoecaaGreatDoorJm40
import Derived.Test.YtnnjpegeefoecaaGreatDoorJm41
import Derived.Deep.DeepCutAuto
import Derived.Deep.RegionHeld3
import Derived.Outline
namespace Go.Proofs.YtnnjpegeefoecaaGreatDoor
set_option linter.unusedVariables false
set_option linter.unusedSimpArgs false
open Go.RowKit

theorem infoStr : (Tryz.prog.info? 9).map (fun i => (i.zero, i.size, i.bytes)) = some (some (.string ⟨#[]⟩), 1, 16) := by kernel_rfl
/-- An argument's text. -/
def paS (p : Pa) : ByteArray := p.name ++ ⟨#[58, 32]⟩ ++ typeA p.type
theorem paS_list (p : Pa) : (paS p).data.toList = paB p := by
  unfold paS paB typB
  simp
theorem join_jn (l : List (List UInt8)) : Lib.join l [44, 32] = jn l := by
  induction l with
  | nil => rfl
  | cons x r ih =>
    cases r with
    | nil => simp [Lib.join_one, jn]
    | cons y r =>
      rw [Lib.join_cons]
      rw [Lib.join_cons] at ih
      unfold jn
      rw [← ih]
      simp [Lib.joinTail]
theorem one_str (s : ByteArray) : ∀ u ∈ ([.string s] : List Value), u.oneCell' = true := by
  intro u hu
  simp only [List.mem_singleton] at hu
  rw [hu]; rfl
theorem jn_mem (l : List (List UInt8)) : ∀ x ∈ l, x.length ≤ (jn l).length := by
  induction l with
  | nil => intro x hx; simp at hx
  | cons y r ih =>
    intro x hx
    cases r with
    | nil => simp at hx; rw [hx]; exact Nat.le_refl _
    | cons z r =>
      have : (jn (y :: z :: r)).length = y.length + (2 + (jn (z :: r)).length) := by simp [jn]; omega
      rcases List.mem_cons.mp hx with hx | hx
      · rw [hx]; omega
      · have := ih x hx; omega
/-- Arguments' texts, joined. -/
theorem join_any (ps : List Pa) (base : Nat) (V : Option Addr) (C : Nat) (w : World) (h : w.ownsRow base 9 1 (.slice V ps.length C) ps.length (ps.map fun p => Value.string (paS p))) (hpl : ps.length ≤ 1099511627776) (hl : (jn (ps.map paB)).length ≤ 1099511627776) :
    Calls Tryz.prog 44 #[.slice V ps.length C, .string ⟨#[44, 32]⟩] w fun e w' => e = .returned (.string ⟨(jn (ps.map paB)).toArray⟩) ∧ Below w.heap.size w w' := by
  have hcap := (own_cap h).1
  rcases h.2 with ⟨hv, h0⟩ | ⟨g, c, cur, hv, _⟩
  · have hp : ps = [] := List.length_eq_zero_iff.mp h0
    subst hp
    refine (strings_Join_none V C ⟨#[44, 32]⟩ w).mono ?_
    rintro e w' ⟨rfl, rfl⟩
    exact ⟨rfl, Below.refl _ _⟩
  · obtain rfl : V = some ⟨g, 0, none⟩ := by simp only [Value.slice.injEq] at hv; exact hv.1
    have hlt := h.lt g rfl
    have hm : (ps.map paS).map (·.data.toList) = ps.map paB := by
      rw [List.map_map]
      exact List.map_congr_left fun p _ => paS_list p
    have hJ := strings_Join g 0 C (ps.map paS) ⟨#[44, 32]⟩ w (fun j x hx => by
      have hj : j < ps.length := by
        have := (List.getElem?_eq_some_iff.mp hx).1
        simpa using this
      have h1 := h.cellAt j (by omega)
      rw [Nat.zero_add, h1]
      rw [List.getElem?_map] at hx ⊢
      cases hq : ps[j]? with
      | none => rw [hq] at hx; simp at hx
      | some q =>
        rw [hq] at hx
        simp only [Option.map_some, Option.some.injEq] at hx ⊢
        rw [hx]) hlt.2 (by rw [List.length_map]; omega) (by rw [List.length_map]; omega) (by rw [hm, join_jn]; omega)
    rw [hm, List.length_map] at hJ
    have he : Lib.join (ps.map paB) (⟨#[44, 32]⟩ : ByteArray).data.toList = jn (ps.map paB) := join_jn _
    rw [he] at hJ
    exact hJ
end Go.Proofs.YtnnjpegeefoecaaGreatDoor
namespace Go.Proofs.YtnnjpegeefoecaaGreatDoor
set_option linter.unusedVariables false
set_option linter.unusedSimpArgs false
open Go.RowKit

set_option maxRecDepth 100000 in
set_option maxHeartbeats 8000000 in
theorem fnPr_any (B b : Nat) (l : List UInt8) (nm : ByteArray) (at_ : Int) (ps : List Pa) (ret : Int) (body : List St) (vars : Int) (A : Option Addr) (pc : Nat) (Bd : Option Addr) (bc : Nat) (w : World) (h : IsPr B b (Lib.byteCells l) w) (hA : RdAs w (· < B) A ps) (hBd : RdSs w (· < B) Bd 0 body)
    (hg : goodSs body) (hbl : body.length ≤ 1099511627776) (hpl : ps.length ≤ 1099511627776) (hlen : l.length + (prF ⟨nm, at_, ps, ret, body, vars⟩).length ≤ 1099511627776) (hBw : B ≤ w.heap.size) :
    Calls Tryz.prog 23 #[.pointer (some ⟨b, 0, none⟩), .agg #[.string nm, .int .i64 at_, .slice A ps.length pc, .int .i64 ret, .slice Bd body.length bc, .int .i64 vars]] w (PrS B b (l ++ prF ⟨nm, at_, ps, ret, body, vars⟩) w) := by
  obtain ⟨i0, hi, hz0, hz1, hz2⟩ := info_parts infoStr
  obtain ⟨jt, hjt⟩ : ∃ x, x = jn (ps.map paB) := ⟨_, rfl⟩
  obtain ⟨rs, hrs⟩ : ∃ x, x = resB ret := ⟨_, rfl⟩
  have hR := fun w' => result_any ret w'
  rw [← hrs] at hR
  have hp : prF ⟨nm, at_, ps, ret, body, vars⟩ = lnP 0 [[102, 110, 32], nm.data.toList, [40], jt, [41], rs, [32, 123]] ++ prSs 1 body ++ lnP 0 [[125]] := by simp [prF, hjt, hrs]
  rw [hp] at hlen ⊢
  simp only [List.length_append] at hlen
  have hjl : jt.length ≤ 1099511627776 := by
    have : jt.length ≤ (lnP 0 [[102, 110, 32], nm.data.toList, [40], jt, [41], rs, [32, 123]]).length := by unfold lnP; simp; omega
    omega
  have hps : ∀ p ∈ ps, p.name.size ≤ 1099511627776 := fun p hp => by
    have h1 := jn_mem (ps.map paB) (paB p) (List.mem_map_of_mem hp)
    rw [← hjt] at h1
    have h2 : (paB p).length = p.name.size + (2 + (typB p.type).length) := by unfold paB; simp; omega
    omega
  have Hi := Lib.hid hi
  have Hz0 := Lib.hid hz0
  have Hz1 := Lib.hid hz1
  have Hz2 := Lib.hid hz2
  obtain ⟨w1, hw1, hb1, hz, hc1⟩ := t_one_al w #[.string nm, .int .i64 at_, .slice A ps.length pc, .int .i64 ret, .slice Bd body.length bc, .int .i64 vars] 39
  have hB1 : Below B w w1 := hb1.mono hBw
  have HP1 := Lib.hid (h.below hb1)
  have HB1 := Lib.hid (And.intro hB1 (KeepT.of_below hb1))
  have Hc1 := Lib.hid hc1
  have hz1' : B ≤ w1.heap.size := by omega
  have hzw : w.heap.size < w1.heap.size := by omega
  have HA := Lib.hid (RdAs.keep (w' := w1) (fun q hq => hB1.cell hq) hA)
  have Hps := Lib.hid hps
  have Hjt := Lib.hid hjt
  have hL0 : ∀ w2, Below w1.heap.size w1 w2 → Calls Tryz.prog 43 #[.pointer (some ⟨b, 0, none⟩), .int .i64 0, .slice (some ⟨w2.heap.size, 0, none⟩) 7 7] (w2.alloc (.cells #[.string ⟨#[102, 110, 32]⟩, .string nm, .string ⟨#[40]⟩, .string ⟨jt.toArray⟩, .string ⟨#[41]⟩, .string ⟨rs.toArray⟩, .string ⟨#[32, 123]⟩] 9)) (PrS B b (l ++ lnP 0 [[102, 110, 32], nm.data.toList, [40], jt, [41], rs, [32, 123]]) w2) := fun w2 hb => line1 B b l 0 [[102, 110, 32], nm.data.toList, [40], jt, [41], rs, [32, 123]] #[.string ⟨#[102, 110, 32]⟩, .string nm, .string ⟨#[40]⟩, .string ⟨jt.toArray⟩, .string ⟨#[41]⟩, .string ⟨rs.toArray⟩, .string ⟨#[32, 123]⟩] w2 rfl (HP1.out.below hb) (by simp) (by omega) (Nat.le_trans hz1' hb.size)
  have hC1 : ∀ w2, IsPr B b (Lib.byteCells (l ++ lnP 0 [[102, 110, 32], nm.data.toList, [40], jt, [41], rs, [32, 123]])) w2 → Below B w w2 → Calls Tryz.prog 46 #[.pointer (some ⟨b, 0, none⟩), .slice Bd body.length bc, .int .i64 1] w2 (PrS B b (l ++ lnP 0 [[102, 110, 32], nm.data.toList, [40], jt, [41], rs, [32, 123]] ++ prSs 1 body) w2) := fun w2 hp hb => block_all B b (l ++ lnP 0 [[102, 110, 32], nm.data.toList, [40], jt, [41], rs, [32, 123]]) 1 Bd body bc w2 hp (RdSs.keep (w' := w2) (fun q hq => hb.cell hq) _ _ _ hBd) hg hbl (by simp only [List.length_append]; omega) (Nat.le_trans hBw hb.size) (by omega)
  have hC2 : ∀ w2, IsPr B b (Lib.byteCells (l ++ lnP 0 [[102, 110, 32], nm.data.toList, [40], jt, [41], rs, [32, 123]] ++ prSs 1 body)) w2 → B ≤ w2.heap.size → Calls Tryz.prog 43 #[.pointer (some ⟨b, 0, none⟩), .int .i64 0, .slice (some ⟨w2.heap.size, 0, none⟩) 1 1] (w2.alloc (.cells #[.string ⟨#[125]⟩] 9)) (PrS B b (l ++ lnP 0 [[102, 110, 32], nm.data.toList, [40], jt, [41], rs, [32, 123]] ++ prSs 1 body ++ lnP 0 [[125]]) w2) := fun w2 hp hz => line1 B b (l ++ lnP 0 [[102, 110, 32], nm.data.toList, [40], jt, [41], rs, [32, 123]] ++ prSs 1 body) 0 [[125]] #[.string ⟨#[125]⟩] w2 rfl hp (by simp) (by simp only [List.length_append]; omega) hz
  obtain ⟨t0, ht0⟩ : ∃ t, t = lnP 0 [[102, 110, 32], nm.data.toList, [40], jt, [41], rs, [32, 123]] := ⟨_, rfl⟩
  obtain ⟨t1, ht1⟩ : ∃ t, t = prSs 1 body := ⟨_, rfl⟩
  obtain ⟨t2, ht2⟩ : ∃ t, t = lnP 0 [[125]] := ⟨_, rfl⟩
  rw [← ht0] at hL0 hC1 hC2 ⊢
  rw [← ht1] at hC1 hC2 ⊢
  rw [← ht2] at hC2 ⊢
  obtain ⟨n, hn⟩ : ∃ n, n = ps.length := ⟨_, rfl⟩
  have Hn := Lib.hid hn
  rw [← hn] at hpl hw1 hc1
  obtain ⟨y0, y1, y2, y3, y4, y5, yf⟩ := cells6 hc1
  have hcon : (Value.slice A ps.length pc) = Value.slice A n pc := by rw [hn]
  rw [hcon]
  clear hi hz0 hz1 hz2 hb1 hB1 hA hBd hg hps hlen hn h hc1 hcon hz hp ht0 ht1 ht2 hjt hrs
  go_enter Tryz.func23, Tryz.ntmps23
  go_upto_region 1 with fail
  rw [← hw1]
  clear hw1
  go_wp2
  go_loopw [4, 10] (fun u4 u10 wr => ∃ (i : Nat) (v : Value), i ≤ n ∧ u10 = .int .i64 i ∧ u4 = v ∧ Hid (wr.ownsRow w1.heap.size 9 1 v i ((ps.take i).map fun p => Value.string (paS p))) ∧ Hid (Below w1.heap.size w1 wr)) (fun _ u _ => n - (intOf u).toNat)
  case atStart => exact ⟨0, _, Nat.zero_le _, rfl, rfl, Lib.hid (World.ownsRow_nil w1 w1.heap.size 9 1), Lib.hid (Below.refl _ _)⟩
  case round =>
    obtain ⟨i, v, hin, rfl, rfl, hown, hb⟩ := hrel
    obtain ⟨V, C, rfl⟩ := own_form hown.out
    clear y0 y1 y2 y3 y4 y5 yf
    obtain ⟨y0, y1, y2, y3, y4, y5, yf⟩ := cells6 ((hb.out.block w.heap.size hzw).trans Hc1.out)
    rw [← Hn.out] at y2
    by_cases hlt : i < n
    · have hil : i < ps.length := by rw [← Hn.out]; exact hlt
      obtain ⟨r, o, rfl, hr, hx⟩ := HA.out (by omega)
      obtain ⟨p, hp⟩ : ∃ p, ps[i]? = some p := ⟨_, List.getElem?_eq_getElem hil⟩
      obtain ⟨x0, x1⟩ := hx i p hp
      have hrw : r < w1.heap.size := Nat.lt_of_lt_of_le hr hz1'
      have up : ∀ j u, w1.cell? ⟨r, j, none⟩ = some u → wr.cell? ⟨r, j, none⟩ = some u := fun j u e => (hb.out.cell (p := ⟨r, j, none⟩) hrw).trans e
      replace x0 := up _ _ x0
      replace x1 := up _ _ x1
      have hpsz := Hps.out p (List.mem_of_getElem? hp)
      have htk : (ps.take (i + 1)).map (fun p => Value.string (paS p)) = (ps.take i).map (fun p => Value.string (paS p)) ++ [Value.string (paS p)] := by
        rw [List.take_succ_eq_append_getElem hil, List.map_append]
        congr 2
        rw [List.getElem?_eq_getElem hil] at hp
        rw [Option.some.inj hp]
        rfl
      have Htk := Lib.hid htk
      obtain ⟨pn, pt⟩ := p
      dsimp only at x0 x1 hpsz
      have hS : paS ⟨pn, pt⟩ = pn ++ ⟨#[58, 32]⟩ ++ typeA pt := rfl
      have hT := fun w' => type_any pt w'
      have hts := typeA_size pt
      rw [hS] at Htk
      obtain ⟨ty, hty⟩ : ∃ ty, ty = typeA pt := ⟨_, rfl⟩
      rw [← hty] at hT hts Htk
      obtain ⟨ps', hps'⟩ : ∃ x, x = (ps.take i).map (fun p => Value.string (paS p)) := ⟨_, rfl⟩
      rw [← hps'] at hown Htk
      have hs2 : (pn ++ ⟨#[58, 32]⟩).size ≤ 1099511627778 := by simp [ByteArray.size_append]; have : (⟨#[58, 32]⟩ : ByteArray).size = 2 := rfl; omega
      have hss : (pn ++ ⟨#[58, 32]⟩ ++ ty).size ≤ 1099511627785 := by simp [ByteArray.size_append]; have : (⟨#[58, 32]⟩ : ByteArray).size = 2 := rfl; omega
      obtain ⟨wb, hwb, hbb, hzb, hcb⟩ := t_one_al wr #[.string pn, .int .i64 pt] 95
      obtain ⟨wA, hwA, hbA, hzA, hcA⟩ := t_one_al wb.drew #[.string (pn ++ ⟨#[58, 32]⟩ ++ ty)] 9
      have hbD : Below wr.heap.size wr wA := hbb.trans ((show Below wr.heap.size wb wb.drew from (Below.refl _ _).drew).trans (hbA.mono (show wr.heap.size ≤ wb.heap.size by omega)))
      have HOW := Lib.hid (hown.out.kept (row := none) (w' := wA) ⟨hbD.os, hbD.tape, hbD.output, hbD.size, fun k hk _ => hbD.block k hk⟩ (by cases Value.ownBlock _ <;> simp))
      have HNW := Lib.hid (World.news_of_block hcA)
      have HOC := Lib.hid (one_str (pn ++ ⟨#[58, 32]⟩ ++ ty))
      have HbD := Lib.hid (hb.out.trans (hbD.mono hb.out.size))
      have hsz : w1.heap.size ≤ wA.heap.size := HbD.out.size
      have dd : wb.drew.cell? ⟨wr.heap.size, 0, none⟩ = some (.string pn) ∧ wb.drew.cell? ⟨wr.heap.size, 1, none⟩ = some (.int .i64 pt) := ⟨Lib.cell_of_heap hcb 0, Lib.cell_of_heap hcb 1⟩
      have hwbz : wr.heap.size < wb.drew.heap.size := by simp; omega
      have hcb2 := (hbA.block wr.heap.size hwbz).trans hcb
      have dd2 : wA.cell? ⟨wr.heap.size, 0, none⟩ = some (.string pn) ∧ wA.cell? ⟨wr.heap.size, 1, none⟩ = some (.int .i64 pt) := ⟨Lib.cell_of_heap hcb2 0, Lib.cell_of_heap hcb2 1⟩
      rw [hwA] at dd2
      have dd2' : (wb.alloc (.cells #[.string (pn ++ ⟨#[58, 32]⟩ ++ ty)] 9)).drew.cell? ⟨wr.heap.size, 0, none⟩ = some (.string pn) ∧ (wb.alloc (.cells #[.string (pn ++ ⟨#[58, 32]⟩ ++ ty)] 9)).drew.cell? ⟨wr.heap.size, 1, none⟩ = some (.int .i64 pt) := dd2
      have Hcb2 := Lib.hid hcb2
      have HwA := Lib.hid hwA
      have hzz : w1.heap.size ≤ wr.heap.size := hb.out.size
      have hrz : wr.heap.size < wA.heap.size := by omega
      have hgr : Hid (∀ k, (Value.slice V i C).ownBlock = some k → w1.heap.size ≤ k ∧ k < wr.heap.size) := Lib.hid fun k hk => hown.out.lt k hk
      have hq1 : ¬ 9223372036854775807 < pn.size + 2 := by omega
      have hq2 : ¬ 9223372036854775807 < pn.size + 2 + ty.size := by omega
      have hq3 : ¬ 9223372036854775807 < (pn ++ ⟨#[58, 32]⟩).size + ty.size := by omega
      have hq4 : ¬ (9223372036854775807 : Int) < (pn.size : Int) + 2 := by omega
      have hq5 : ¬ (9223372036854775807 : Int) < (pn.size : Int) + 2 + (ty.size : Int) := by omega
      have hq6 : ¬ (9223372036854775807 : Int) < ((pn ++ ⟨#[58, 32]⟩).size : Int) + (ty.size : Int) := by omega
      clear up hx hp htk hS hty hps' hbb hcb hbA hcA hbD hwA hcb2 hrw hr hown
      have x0' := x0
      have x1' := x1
      go_upto_region 5 with fail
      all_goals
        rw [← hwb]
        clear hwb x0 x1 x0' x1' y0 y1 y2 y3 y4 y5 yf
        go_region_held3 (fun w' => w'.cell? ⟨wr.heap.size, 0, none⟩ = some (.string pn) ∧ w'.cell? ⟨wr.heap.size, 1, none⟩ = some (.int .i64 pt)) (first | with_reducible exact dd | with_reducible exact dd2 | with_reducible exact dd2' | with_reducible exact dd3) (first
          | (go_at_call 42; (with_reducible refine (hT _).mono ?_); rintro e w' ⟨rfl, rfl⟩)
          | ((first | rw [← HwA.out] | rw [show (wb.alloc (.cells #[.string (pn ++ ⟨#[58, 32]⟩ ++ ty)] 9)).drew = wA from HwA.out.symm]); (refine step_append_lies _ rfl (.tmp 14) (.tmp 22) 93 rfl w1.heap.size 9 i0 (.string ⟨#[]⟩) 1 16 Tryz.underlying93 Hi.out Hz0.out Hz1.out Hz2.out rfl (by decide) (.slice V i C) i ps' (by simp [Act.eval, Act.put]) HOW.out ⟨wb.drew.heap.size, 0, none⟩ 1 1 [.string (pn ++ ⟨#[58, 32]⟩ ++ ty)] (by simp [Act.eval, Act.put]) rfl HNW.out HOC.out (by decide) (by unfold maxLen; omega) (by omega) hsz _ rfl ?_; intro gp cp2 w2 hown2 hgrow hat hlt2; have hc2 := (hgrow.block wr.heap.size hrz (fun e => by have := hgr.out _ e.symm; omega)).trans Hcb2.out; have dd3 : w2.cell? ⟨wr.heap.size, 0, none⟩ = some (.string pn) ∧ w2.cell? ⟨wr.heap.size, 1, none⟩ = some (.int .i64 pt) := ⟨Lib.cell_of_heap hc2 0, Lib.cell_of_heap hc2 1⟩; have Hown2 := Lib.hid hown2; have Hb2 := Lib.hid (HbD.out.grown hgrow hsz (fun k hk => (hgr.out k hk).1)); clear hown2 hgrow hat hlt2 hc2)))
        all_goals
          clear dd dd2 dd2' dd3
          have Hown3 : Hid (w2.ownsRow w1.heap.size 9 1 (.slice (some ⟨gp, 0, none⟩) (i + 1) cp2) (i + 1) ((ps.take (i + 1)).map fun p => Value.string (paS p))) := Lib.hid (by rw [Htk.out]; exact Hown2.out)
          go_wp2
          go_roundw
          case rel => exact ⟨i + 1, _, by omega, by go_num, rfl, Hown3, Hb2⟩
          case measure => simp [intOf]; omega
    · obtain rfl : i = n := by omega
      have hr := hown.out
      rw [Hn.out, List.take_length] at hr
      have hdr : Below wr.heap.size wr wr.drew := (Below.refl _ _).drew
      have hJ := join_any ps w1.heap.size V C wr.drew (hr.kept (row := none) (w' := wr.drew) ⟨hdr.os, hdr.tape, hdr.output, hdr.size, fun k hk _ => hdr.block k hk⟩ (by cases Value.ownBlock _ <;> simp)) (by rw [← Hn.out]; exact hpl) (by rw [← Hjt.out]; exact hjl)
      rw [← Hjt.out, ← Hn.out] at hJ
      have dd : wr.drew.cell? ⟨w.heap.size, 0, none⟩ = some (.string nm) ∧ wr.drew.cell? ⟨w.heap.size, 3, none⟩ = some (.int .i64 ret) := ⟨y0, y3⟩
      have Hbr := Lib.hid (hb.out.trans (hdr.mono hb.out.size))
      have hzwr : w1.heap.size ≤ wr.drew.heap.size := Hbr.out.size
      clear hr hdr
      go_upto_region 7 with fail
      clear y0 y1 y2 y3 y4 y5 yf
      go_region_held3 (fun w' => w'.cell? ⟨w.heap.size, 0, none⟩ = some (.string nm) ∧ w'.cell? ⟨w.heap.size, 3, none⟩ = some (.int .i64 ret)) (first | with_reducible exact dd | with_reducible exact dd2 | with_reducible exact dd3 | with_reducible exact dd4) (first
        | (go_at_call 45; (with_reducible refine (hR _).mono ?_); rintro e w' ⟨rfl, rfl⟩)
        | (go_at_call 44; refine hJ.mono ?_; rintro e v2 ⟨rfl, hb'⟩; have hb2 : Below w1.heap.size w1 v2 := Hbr.out.trans (hb'.mono hzwr); have hv2 := (hb2.block w.heap.size hzw).trans Hc1.out; have dd2 : v2.cell? ⟨w.heap.size, 0, none⟩ = some (.string nm) ∧ v2.cell? ⟨w.heap.size, 3, none⟩ = some (.int .i64 ret) := And.intro (Lib.cell_of_heap hv2 0) (Lib.cell_of_heap hv2 3); have hCt := hL0 v2 hb2; obtain ⟨v3, hv3, hbv3, _, _⟩ := t_one_al v2 #[.string ⟨#[102, 110, 32]⟩, .string nm, .string ⟨#[40]⟩, .string ⟨jt.toArray⟩, .string ⟨#[41]⟩, .string ⟨rs.toArray⟩, .string ⟨#[32, 123]⟩] 9; have hv3c := (hbv3.block w.heap.size (Nat.lt_of_lt_of_le hzw hb2.size)).trans hv2; have dd3 : v3.cell? ⟨w.heap.size, 0, none⟩ = some (.string nm) ∧ v3.cell? ⟨w.heap.size, 3, none⟩ = some (.int .i64 ret) := And.intro (Lib.cell_of_heap hv3c 0) (Lib.cell_of_heap hv3c 3); rw [hv3] at dd3; have Hv2 := Lib.hid hv2; have HBv := Lib.hid (And.intro (HB1.out.1.trans (hb2.mono hz1')) (HB1.out.2.trans (KeepT.of_below hb2))); clear hb' hb2 hv2 hv3 hbv3 hv3c hJ hL0)
        | (go_at_call 43; refine hCt.mono ?_; rintro e x0 ⟨rfl, hp, hb', hkp⟩; have Hn0 := Lib.hid (hkp _ _ _ _ Hv2.out (by decide) (by decide)); have dd4 : x0.cell? ⟨w.heap.size, 0, none⟩ = some (.string nm) ∧ x0.cell? ⟨w.heap.size, 3, none⟩ = some (.int .i64 ret) := And.intro (Lib.cell_of_heap Hn0.out 0) (Lib.cell_of_heap Hn0.out 3); have Hq0 := Lib.hid hp; have Hr0 := Lib.hid (And.intro (HBv.out.1.trans hb') (HBv.out.2.trans hkp)); clear hp hb' hkp hCt))
      all_goals
        clear dd dd2 dd3 dd4
        have hzx : B ≤ x0.heap.size := by have := Hr0.out.1.size; omega
        obtain ⟨y0, y1, y2, y3, y4, y5, yf⟩ := cells6 Hn0.out
        go_upto_region 9 with (go_at_call 46; refine (hC1 x0 Hq0.out Hr0.out.1).mono ?_; rintro e x1 ⟨rfl, hp, hb', hkp⟩; have Hq1 := Lib.hid hp; have Hr1 := Lib.hid (And.intro (Hr0.out.1.trans hb') (Hr0.out.2.trans hkp)); clear hp hb' hkp hC1 y0 y1 y2 y3 y4 y5 yf)
        have hzx1 : B ≤ x1.heap.size := by have := Hr1.out.1.size; omega
        go_wp2_with (go_at_call 43; refine (hC2 x1 Hq1.out hzx1).mono ?_; rintro e x2 ⟨rfl, hp, hb', hkp⟩; have Hq2 := Lib.hid hp; have Hr2 := Lib.hid (And.intro (Hr1.out.1.trans hb') (Hr1.out.2.trans hkp)); clear hp hb' hkp hC2)
        go_end0
        refine ⟨rfl, ?_, Hr2.out.1, Hr2.out.2⟩
        simp only [← List.append_assoc]
        exact Hq2.out
end Go.Proofs.YtnnjpegeefoecaaGreatDoor
namespace Go.Proofs.YtnnjpegeefoecaaGreatDoor
set_option linter.unusedVariables false
set_option linter.unusedSimpArgs false
open Go.RowKit

/-- A function that can be printed. -/
def goodF (f : Fu) : Prop := goodSs f.body ∧ f.body.length ≤ 1099511627776 ∧ f.params.length ≤ 1099511627776
theorem prT_snoc (l : List Fu) (k : Nat) (hk : k < l.length) : prT (l.take (k + 1)) = prT (l.take k) ++ prF l[k] := by
  have h : ∀ (r : List Fu) (x : Fu), prT (r ++ [x]) = prT r ++ prF x := fun r x => by
    induction r with
    | nil => simp [prT]
    | cons y r ih => simp only [List.cons_append, prT, ih, List.append_assoc]
  rw [List.take_succ_eq_append_getElem hk, h]
theorem prT_take_le (l : List Fu) (k : Nat) : (prT (l.take k)).length ≤ (prT l).length := by
  induction l generalizing k with
  | nil => simp
  | cons x r ih =>
    cases k with
    | zero => simp [prT]
    | succ k =>
      have := ih k
      simp only [List.take_succ_cons, prT, List.length_append]
      omega
set_option maxRecDepth 100000 in
set_option maxHeartbeats 8000000 in
theorem Print_any (fs : List Fu) (A : Option Addr) (c : Nat) (w : World) (hA : RdFs w (· < w.heap.size) A fs) (hg : ∀ f ∈ fs, goodF f) (hn : fs.length ≤ 1099511627776) (hlen : (prT fs).length ≤ 1099511627776) (h0 : prT fs ≠ []) :
    Calls Tryz.prog 12 #[.agg #[.slice A fs.length c]] w fun e w' => e = .returned (.string ⟨(prT fs).toArray⟩) ∧ Below w.heap.size w w' := by
  obtain ⟨n, hnn⟩ : ∃ n, n = fs.length := ⟨_, rfl⟩
  have Hn := Lib.hid hnn
  rw [← hnn] at hn ⊢
  obtain ⟨w1, hw1, hb1, hz1, hc1⟩ := t_one_al w #[.slice A n c] 24
  obtain ⟨w2, hw2, hb2, hz2, hc2⟩ := t_one_al w1 #[.pointer none, .slice none 0 0] 62
  have hb12 : Below w.heap.size w w2 := hb1.trans (hb2.mono (by omega))
  have H := Lib.hid (isPr_new (B := w.heap.size) hc2 (by omega))
  have hct := (hb2.block w.heap.size (by omega)).trans hc1
  have y0 : w2.cell? ⟨w.heap.size, 0, none⟩ = some (.slice A n c) := Lib.cell_of_heap hct 0
  have HA := Lib.hid (RdFs.keep (w' := w2) (fun q hq => hb12.cell hq) hA)
  have Hg := Lib.hid hg
  have Hlen := Lib.hid hlen
  have H0 := Lib.hid h0
  have Hb12 := Lib.hid hb12
  have hBw : w.heap.size ≤ w2.heap.size := by omega
  clear hA hg hlen h0 hnn hb1 hb2 hz1 hz2 hc1 hc2 hb12 hct
  go_enter Tryz.func12, Tryz.ntmps12
  go_upto_region 1 with fail
  rw [← hw1]
  clear hw1
  go_upto_region 2 with fail
  rw [← hw2]
  clear hw2
  go_wp2
  go_loopw [9] (fun i wr => ∃ k : Nat, k ≤ n ∧ i = .int .i64 k ∧ Hid (IsPr w.heap.size w1.heap.size (Lib.byteCells (prT (fs.take k))) wr ∧ Below w.heap.size w2 wr ∧ KeepT w2 wr)) (fun i _ => n - (intOf i).toNat)
  case atStart => exact ⟨0, Nat.zero_le _, rfl, Lib.hid ⟨by simpa [prT, Lib.byteCells] using H.out, Below.refl _ _, KeepT.refl _⟩⟩
  case round =>
    obtain ⟨k, hk, rfl, HR⟩ := hrel
    have hz : w.heap.size ≤ wr.heap.size := Nat.le_trans hBw HR.out.2.1.size
    by_cases hlt : k < n
    · have hkl : k < fs.length := by rw [← Hn.out]; exact hlt
      obtain ⟨f, hf⟩ : ∃ f, fs[k]? = some f := ⟨_, List.getElem?_eq_getElem hkl⟩
      have heq : fs[k] = f := by rw [List.getElem?_eq_getElem hkl] at hf; exact Option.some.inj hf
      have hmem : f ∈ fs := List.mem_of_getElem? hf
      obtain ⟨g, q, rfl, hgq, hF⟩ := HA.out (by omega)
      obtain ⟨x0, x1, ⟨PA, pc, x2, hPA⟩, x3, ⟨BA, bc, x4, hBA⟩, x5⟩ := hF k f hf
      have hgf := Hg.out f hmem
      have hjt := prT_snoc fs k hkl
      have hjl := prT_take_le fs (k + 1)
      rw [heq] at hjt
      obtain ⟨nm, at_, ps, ret, body, vars⟩ := f
      dsimp only [goodF] at x0 x1 x2 x3 x4 x5 hPA hBA hgf
      rw [Nat.add_zero] at x0
      have up : ∀ j u, w2.cell? ⟨g, j, none⟩ = some u → wr.cell? ⟨g, j, none⟩ = some u := fun j u e => (HR.out.2.1.cell (p := ⟨g, j, none⟩) hgq).trans e
      replace x0 := up _ _ x0
      replace x1 := up _ _ x1
      replace x2 := up _ _ x2
      replace x3 := up _ _ x3
      replace x4 := up _ _ x4
      replace x5 := up _ _ x5
      obtain ⟨wb, hwb, hbb, hzb, hcb⟩ := t_one_al wr #[.string nm, .int .i64 at_, .slice PA ps.length pc, .int .i64 ret, .slice BA body.length bc, .int .i64 vars] 39
      have hpb := HR.out.1.below hbb
      have hbbB : Below w.heap.size w2 wb := HR.out.2.1.trans (hbb.mono hz)
      have hkb : KeepT w2 wb := HR.out.2.2.trans (KeepT.of_below hbb)
      have hX1 := fnPr_any w.heap.size w1.heap.size (prT (fs.take k)) nm at_ ps ret body vars PA pc BA bc wb hpb (RdAs.keep (w' := wb) (fun p hp => hbbB.cell hp) hPA) (RdSs.keep (w' := wb) (fun p hp => hbbB.cell hp) _ _ _ hBA) hgf.1 hgf.2.1 hgf.2.2 (by have := Hlen.out; rw [hjt, List.length_append] at hjl; omega) (by omega)
      obtain ⟨pe, hpe⟩ : ∃ pe, pe = prF ⟨nm, at_, ps, ret, body, vars⟩ := ⟨_, rfl⟩
      rw [← hpe] at hX1 hjt
      rw [← hjt] at hX1
      obtain ⟨y0', y1, y2, y3, y4, y5, yf⟩ := cells6 hcb
      have HB2 := Lib.hid (show Below w.heap.size w2 wb ∧ KeepT w2 wb from ⟨hbbB, hkb⟩)
      obtain ⟨L, hL⟩ : ∃ L, L = prT (fs.take (k + 1)) := ⟨_, rfl⟩
      rw [← hL] at hX1
      have HL := Lib.hid hL
      clear hf heq hmem hF hjt hjl hpe hPA hBA up hpb hbbB hkb hcb hbb hzb hgf hL
      by_cases hk0 : k = 0
      · subst hk0
        rw [Nat.zero_mul, Nat.add_zero] at x0 x1 x2 x3 x4 x5
        go_upto_region 5 with fail
        rw [← hwb]
        clear hwb x0 x1 x2 x3 x4 x5
        go_wp2_with (go_at_call 23; refine hX1.mono ?_; rintro e w3 ⟨rfl, hp, hb, hkp⟩; have HP := Lib.hid (show IsPr w.heap.size w1.heap.size (Lib.byteCells (prT (fs.take 1))) w3 ∧ Below w.heap.size w2 w3 ∧ KeepT w2 w3 from ⟨by rw [← HL.out]; exact hp, HB2.out.1.trans hb, HB2.out.2.trans hkp⟩); clear hp hb hkp hX1)
        go_roundw
        case rel => exact ⟨1, by omega, by go_num, HP⟩
        case measure => simp [intOf]; omega
      · go_upto_region 5 with fail
        rw [← hwb]
        clear hwb x0 x1 x2 x3 x4 x5
        go_wp2_with (go_at_call 23; refine hX1.mono ?_; rintro e w3 ⟨rfl, hp, hb, hkp⟩; have HP := Lib.hid (show IsPr w.heap.size w1.heap.size (Lib.byteCells (prT (fs.take (k + 1)))) w3 ∧ Below w.heap.size w2 w3 ∧ KeepT w2 w3 from ⟨by rw [← HL.out]; exact hp, HB2.out.1.trans hb, HB2.out.2.trans hkp⟩); clear hp hb hkp hX1)
        go_roundw
        case rel => exact ⟨k + 1, by omega, by go_num, HP⟩
        case measure => simp [intOf]; omega
    · obtain rfl : k = n := by omega
      have hR := HR.out
      rw [Hn.out, List.take_length] at hR
      have hSt := string_any w.heap.size w1.heap.size (prT fs) wr hR.1 H0.out
      have HB := Lib.hid (Hb12.out.trans hR.2.1)
      clear hR HR
      go_wp2_with (go_at_call 24; refine hSt.mono ?_; rintro e w4 ⟨rfl, hb⟩; have HB4 := Lib.hid (HB.out.trans hb); clear hb hSt)
      go_ret
      exact ⟨rfl, HB4.out⟩
set_option maxRecDepth 100000 in
set_option maxHeartbeats 4000000 in
theorem string_new (b : Nat) (w : World) (hc : w.heap[b]? = some (.cells #[.pointer none, .slice none 0 0] 62 (0, 0))) :
    Calls Tryz.prog 24 #[.pointer (some ⟨b, 0, none⟩)] w fun e w' => e = .returned (.string ⟨#[]⟩) ∧ Below w.heap.size w w' := by
  have hUS : ∀ w, (Builtin.unsafeString_ #[100, 3] 9 #[.pointer none, .int .i64 0]).run Tryz.prog w = .ok (.string ⟨#[]⟩) w := fun w => Lib.run_unsafeString_none w _ _ _ none
  have c1 : w.drew.cell? ⟨b, 1, none⟩ = some (.slice none 0 0) := by
    have : w.drew.heap[b]? = some (.cells #[.pointer none, .slice none 0 0] 62 (0, 0)) := hc
    rw [Lib.cell_of_heap this]; rfl
  have hSD : (Builtin.unsafeSliceData_ #[58] 100 #[.slice none 0 0]).run Tryz.prog w.drew = .ok (.pointer none) w.drew := rfl
  clear hc
  go_enter Tryz.func24, Tryz.ntmps24
  go_wp2
  go_region
  all_goals (go_wp2; go_ret; exact ⟨rfl, Below.drew (Below.refl _ w)⟩)
set_option maxRecDepth 100000 in
set_option maxHeartbeats 8000000 in
theorem Print_none (A : Option Addr) (c : Nat) (w : World) :
    Calls Tryz.prog 12 #[.agg #[.slice A 0 c]] w fun e w' => e = .returned (.string ⟨#[]⟩) ∧ Below w.heap.size w w' := by
  obtain ⟨w1, hw1, hb1, hz1, hc1⟩ := t_one_al w #[.slice A 0 c] 24
  obtain ⟨w2, hw2, hb2, hz2, hc2⟩ := t_one_al w1 #[.pointer none, .slice none 0 0] 62
  have hb12 : Below w.heap.size w w2 := hb1.trans (hb2.mono (by omega))
  have hct := (hb2.block w.heap.size (by omega)).trans hc1
  have y0 : w2.cell? ⟨w.heap.size, 0, none⟩ = some (.slice A 0 c) := Lib.cell_of_heap hct 0
  have hSt := string_new w1.heap.size w2 hc2
  have Hb12 := Lib.hid hb12
  have hBw : w.heap.size ≤ w2.heap.size := by omega
  clear hb1 hb2 hz1 hz2 hc1 hc2 hb12 hct
  go_enter Tryz.func12, Tryz.ntmps12
  go_upto_region 1 with fail
  rw [← hw1]
  clear hw1
  go_upto_region 2 with fail
  rw [← hw2]
  clear hw2
  go_wp2
  go_loopw [9] (fun i wr => i = .int .i64 0 ∧ wr = w2) (fun i _ => 0)
  case atStart => exact ⟨rfl, rfl⟩
  case round =>
    obtain ⟨rfl, rfl⟩ := hrel
    go_wp2_with (go_at_call 24; refine hSt.mono ?_; rintro e w4 ⟨rfl, hb⟩; have HB4 := Lib.hid (Hb12.out.trans (hb.mono hBw)); clear hb hSt)
    go_ret
    exact ⟨rfl, HB4.out⟩
end Go.Proofs.YtnnjpegeefoecaaGreatDoor
namespace Go.Proofs.YtnnjpegeefoecaaGreatDoor
set_option linter.unusedVariables false
set_option linter.unusedSimpArgs false
open Go.RowKit

/-- The text. -/
def awB : ByteArray := ⟨#[102, 110, 32, 109, 97, 105, 110, 40, 41, 58, 32, 105, 110, 116, 32, 123, 32, 114, 101, 116, 117, 114, 110, 32, 49, 32, 43, 32, 50, 32, 42, 32, 51, 59, 32, 125]⟩
/-- The text, printed. -/
def awO : List UInt8 := [102, 110, 32, 109, 97, 105, 110, 40, 41, 58, 32, 105, 110, 116, 32, 123, 10, 9, 114, 101, 116, 117, 114, 110, 32, 40, 49, 32, 43, 32, 40, 50, 32, 42, 32, 51, 41, 41, 59, 10, 125, 10]
def awR : List Tk := (lexS awB.data.toList).1
set_option maxRecDepth 100000 in
theorem aw_lex : lexS awB.data.toList = (awR, none) := by kernel_rfl
def awP : Option (List Fu × PS) := progK 60 [] (begin0 awB awR)
def awL : List Fu := match awP with | some (l, _) => l | none => []
def awS : PS := match awP with | some (_, s) => s | none => begin0 awB awR
set_option maxRecDepth 100000 in
theorem aw_prog : progK 60 [] (begin0 awB awR) = some (awL, awS) := by kernel_rfl
theorem aw_len : awL.length = 1 := by kernel_rfl
theorem aw_fk : (awS.fk != 0) = false := by kernel_rfl
theorem aw_print : prT awL = awO := by kernel_rfl
mutual
def smallEB : Ex → Bool
  | .mk _ _ _ _ _ _ kids => decide (kids.length ≤ 1099511627776) && smallEsB kids
def smallEsB : List Ex → Bool
  | [] => true
  | e :: r => smallEB e && smallEsB r
end
mutual
theorem smallEB_ok : ∀ e : Ex, smallEB e = true → smallE e
  | .mk k a t o n s kids, h => by
    unfold smallEB at h
    unfold smallE
    rw [Bool.and_eq_true, decide_eq_true_eq] at h
    exact ⟨h.1, smallEsB_ok kids h.2⟩
theorem smallEsB_ok : ∀ l : List Ex, smallEsB l = true → smallEs l
  | [], _ => by unfold smallEs; trivial
  | e :: r, h => by
    unfold smallEsB at h
    unfold smallEs
    rw [Bool.and_eq_true] at h
    exact ⟨smallEB_ok e h.1, smallEsB_ok r h.2⟩
end
def goodKB (kids : List Ex) : Bool := smallEsB kids && (decide (kids.length ≤ 1099511627776) && (kids.all (fun e => !(prE e).isEmpty) && (decide ((kidP kids 0).length ≤ 1099511627776) && decide ((kidP kids 1).length ≤ 1099511627776))))
theorem goodKB_ok {kids : List Ex} (h : goodKB kids = true) : goodK kids := by
  unfold goodKB at h
  simp only [Bool.and_eq_true, decide_eq_true_eq, List.all_eq_true] at h
  refine ⟨smallEsB_ok _ h.1, h.2.1, fun e he hn => ?_, h.2.2.2.1, h.2.2.2.2⟩
  have := h.2.2.1 e he
  rw [hn] at this
  simp at this
mutual
def goodSB : St → Bool
  | .mk k _ _ _ _ kids body els => (decide (1 ≤ k) && decide (k ≤ 11)) && (goodKB kids && (decide (body.length ≤ 1099511627776) && (decide (els.length ≤ 1099511627776) && (goodSsB body && goodSsB els))))
def goodSsB : List St → Bool
  | [] => true
  | s :: r => goodSB s && goodSsB r
end
mutual
theorem goodSB_ok : ∀ s : St, goodSB s = true → goodS s
  | .mk k a n z p kids body els, h => by
    unfold goodSB at h
    unfold goodS
    simp only [Bool.and_eq_true, decide_eq_true_eq] at h
    exact ⟨h.1, goodKB_ok h.2.1, h.2.2.1, h.2.2.2.1, goodSsB_ok body h.2.2.2.2.1, goodSsB_ok els h.2.2.2.2.2⟩
theorem goodSsB_ok : ∀ l : List St, goodSsB l = true → goodSs l
  | [], _ => by unfold goodSs; trivial
  | s :: r, h => by
    unfold goodSsB at h
    unfold goodSs
    rw [Bool.and_eq_true] at h
    exact ⟨goodSB_ok s h.1, goodSsB_ok r h.2⟩
end
def goodFB (f : Fu) : Bool := goodSsB f.body && (decide (f.body.length ≤ 1099511627776) && decide (f.params.length ≤ 1099511627776))
theorem goodFB_ok {f : Fu} (h : goodFB f = true) : goodF f := by
  unfold goodFB at h
  simp only [Bool.and_eq_true, decide_eq_true_eq] at h
  exact ⟨goodSsB_ok _ h.1, h.2.1, h.2.2⟩
theorem aw_goodB : awL.all goodFB = true := by kernel_rfl
theorem aw_good : ∀ f ∈ awL, goodF f := fun f hf => goodFB_ok (List.all_eq_true.mp aw_goodB f hf)
end Go.Proofs.YtnnjpegeefoecaaGreatDoor
namespace Go.Proofs.YtnnjpegeefoecaaGreatDoor
set_option linter.unusedVariables false
set_option linter.unusedSimpArgs false
open Go.RowKit

set_option maxRecDepth 100000 in
set_option maxHeartbeats 8000000 in
theorem awake_any (w : World) (hr : Rng w) :
    Calls Tryz.prog 11 #[] w fun e w' => e = .returned (.bool true) ∧ Below w.heap.size w w' := by
  have hP := parse_good awB w (by decide) hr awR aw_lex 60 awL awS (by omega) aw_prog aw_fk
  have hB : awB = ⟨#[102, 110, 32, 109, 97, 105, 110, 40, 41, 58, 32, 105, 110, 116, 32, 123, 32, 114, 101, 116, 117, 114, 110, 32, 49, 32, 43, 32, 50, 32, 42, 32, 51, 59, 32, 125]⟩ := rfl
  rw [hB] at hP
  have hPr := fun A c W (hA : RdFs W (· < W.heap.size) A awL) => Print_any awL A c W hA aw_good (by rw [aw_len]; omega) (by rw [aw_print]; decide) (by rw [aw_print]; decide)
  rw [aw_print, aw_len] at hPr
  have hO : (⟨awO.toArray⟩ : ByteArray) = ⟨#[102, 110, 32, 109, 97, 105, 110, 40, 41, 58, 32, 105, 110, 116, 32, 123, 10, 9, 114, 101, 116, 117, 114, 110, 32, 40, 49, 32, 43, 32, 40, 50, 32, 42, 32, 51, 41, 41, 59, 10, 125, 10]⟩ := rfl
  rw [hO] at hPr
  clear hB hO hr
  go_enter Tryz.func11, Tryz.ntmps11
  go_upto_region 2 with (go_at_call 9; refine hP.mono ?_; rintro e w1 ⟨A, c, rfl, hA, hb⟩; rw [aw_len]; have HA := Lib.hid hA; have HB := Lib.hid hb; clear hA hb hP)
  obtain ⟨w2, hw2, hb2, hz2, hc2⟩ := t_one_al w1 #[.slice A 1 c] 24
  rw [← hw2]
  obtain ⟨w3, hw3, hb3, hz3, hc3⟩ := t_one_al w2 #[.int .i64 0, .int .i64 0] 26
  rw [← hw3]
  have hb13 : Below w1.heap.size w1 w3 := hb2.trans (hb3.mono (by omega))
  have hct := (hb3.block w1.heap.size (by omega)).trans hc2
  rw [hz2] at hc3
  have c0 : w3.cell? ⟨w1.heap.size, 0, none⟩ = some (.slice A 1 c) := Lib.cell_of_heap hct 0
  have c1 : w3.cell? ⟨w1.heap.size + 1, 0, none⟩ = some (.int .i64 0) := Lib.cell_of_heap hc3 0
  have hX := hPr A c w3 (RdFs.more (fun q hq => by have := hq.2; omega) (RdFs.keep (w' := w3) (fun q hq => hb13.cell hq.2) HA.out))
  have HB3 := Lib.hid (HB.out.trans (hb13.mono HB.out.size))
  clear hw2 hw3 hb2 hb3 hc2 hc3 hct hPr HA hb13 hz2 hz3
  go_wp2_with (go_at_call 12; refine hX.mono ?_; rintro e w4 ⟨rfl, hb⟩; have HB4 := Lib.hid (HB3.out.trans (hb.mono HB3.out.size)); clear hb hX)
  go_ret
  exact ⟨rfl, HB4.out⟩
end Go.Proofs.YtnnjpegeefoecaaGreatDoor
namespace Go.Proofs.YtnnjpegeefoecaaGreatDoor
set_option linter.unusedVariables false
set_option linter.unusedSimpArgs false
open Go.RowKit

theorem ar_str (i : Nat) : (⟨(arB (i + 2)).toArray⟩ : ByteArray) = ⟨(arB (i + 1)).toArray⟩ ++ ⟨#[44]⟩ ++ ⟨#[97, 58, 32, 105, 110, 116]⟩ := by
  rw [show arB (i + 2) = arB (i + 1) ++ [44, 97, 58, 32, 105, 110, 116] from rfl]
  apply ByteArray.ext
  simp
theorem mn_str (i : Nat) : (⟨(mnB (i + 1)).toArray⟩ : ByteArray) = ⟨(mnB i).toArray⟩ ++ ⟨#[102, 110, 32, 102, 40, 41, 123, 125]⟩ := by
  rw [show mnB (i + 1) = mnB i ++ [102, 110, 32, 102, 40, 41, 123, 125] from rfl]
  apply ByteArray.ext
  simp
theorem at_str (i : Nat) : (⟨(arT i).toArray⟩ : ByteArray) = ⟨#[102, 110, 32, 102, 40]⟩ ++ ⟨(arB i).toArray⟩ ++ ⟨#[41, 32, 123, 125]⟩ := by
  unfold arT
  apply ByteArray.ext
  simp
theorem ParP_len {w w' : World} {fs : List Fu} {fk fa : Int} {e : Ending} {m : Nat} (h : ParP w fs fk fa e w') (hl : fs.length = m) : ∃ A c, e = .returned (.tuple #[.agg #[.slice A m c], .agg #[.int .i64 fk, .int .i64 fa]]) ∧ RdFs w' (From w.heap.size w') A fs ∧ Below w.heap.size w w' := by
  obtain ⟨A, c, he, h1, h2⟩ := h
  rw [hl] at he
  exact ⟨A, c, he, h1, h2⟩
theorem mn_parse (M : Nat) (h : mnOK M = true) (hM : M ≤ 265) : ∃ (fs : List Fu) (fk fa : Int) (m : Nat), fs.length = m ∧ ((M ≤ 256 ∧ m = M ∧ fk = 0) ∨ (256 < M ∧ m = 0 ∧ fk = 4 ∧ fa = 2048)) ∧ ∀ w, Rng w → Calls Tryz.prog 9 #[.string ⟨(mnB M).toArray⟩] w (ParP w fs fk fa) := by
  have hs : sumP (mnB M) = some ((if M ≤ 256 then M else 257), (if M ≤ 256 then 0 else 4), (if M ≤ 256 then 0 else 2048), 0) := by simpa [mnOK] using h
  have hl : (mnB M).length ≤ 1048576 := by rw [mnB_len]; omega
  by_cases hc : M ≤ 256
  · simp only [if_pos hc] at hs
    obtain ⟨fs, h1, _, h2⟩ := sum_good _ _ _ _ hl hs
    exact ⟨fs, 0, 0, M, h1, Or.inl ⟨hc, rfl, rfl⟩, h2⟩
  · simp only [if_neg hc] at hs
    exact ⟨[], 4, 2048, 0, rfl, Or.inr ⟨by omega, rfl, rfl, rfl⟩, sum_fault _ _ _ _ _ hl hs (by decide)⟩
theorem ar_parse (a : Nat) (h : a < 32) : ∃ (fs : List Fu) (fk fa : Int) (m : Nat), fs.length = m ∧ ((a ≤ 16 ∧ m = 1 ∧ fk = 0 ∧ ∀ f r, fs = f :: r → f.params.length = a) ∨ (16 < a ∧ m = 0 ∧ fk = 4)) ∧ ∀ w, Rng w → Calls Tryz.prog 9 #[.string (⟨#[102, 110, 32, 102, 40]⟩ ++ ⟨(arB a).toArray⟩ ++ ⟨#[41, 32, 123, 125]⟩)] w (ParP w fs fk fa) := by
  have hs := ar_ok a h
  have hl : (arT a).length ≤ 1048576 := by have := arB_len a; unfold arT; simp; omega
  rw [← at_str]
  by_cases hc : a ≤ 16
  · simp only [if_pos hc] at hs
    obtain ⟨fs, h1, h3, h2⟩ := sum_good _ _ _ _ hl hs
    exact ⟨fs, 0, 0, 1, h1, Or.inl ⟨hc, rfl, rfl, h3⟩, h2⟩
  · simp only [if_neg hc] at hs
    exact ⟨[], 4, 117, 0, rfl, Or.inr ⟨by omega, rfl, rfl⟩, sum_fault _ _ _ _ _ hl hs (by decide)⟩
set_option maxRecDepth 100000 in
set_option maxHeartbeats 16000000 in
theorem most_any (n args : Int) (w : World) (hr : Rng w) (hmn : ∀ i, i < 16 → mnOK (250 + i) = true) :
    Calls Tryz.prog 5 #[.int .i64 n, .int .i64 args] w fun e w' => e = .returned (.bool true) ∧ Below w.heap.size w w' := by
  obtain ⟨a, ha, hae⟩ := and_31 args
  obtain ⟨b, hb, hbe⟩ := and_15 n
  obtain ⟨M, hM⟩ : ∃ M, M = 250 + b := ⟨_, rfl⟩
  have hMO := hmn b hb
  rw [← hM] at hMO
  have hwr : IntKind.i64.wrap (250 + (b : Int)) = (M : Int) := by rw [IntWalk.i64_in _ (by omega)]; omega
  have HMO := Lib.hid hMO
  have Hr := Lib.hid hr
  have hM2 : M ≤ 265 := by omega
  clear hmn hMO hr hM
  go_enter Tryz.func5, Tryz.ntmps5
  go_wp2
  go_loopw [6, 7] (fun u6 u7 wr => ∃ i : Nat, i ≤ a ∧ u7 = .int .i64 i ∧ u6 = .string ⟨(arB i).toArray⟩ ∧ wr = w) (fun _ u _ => a - (intOf u).toNat)
  case atStart => exact ⟨0, Nat.zero_le _, rfl, rfl, rfl⟩
  case round =>
    obtain ⟨i, hi, rfl, rfl, hw⟩ := hrel
    obtain rfl : w = wr := hw.symm
    have hal := arB_len i
    by_cases hlt : i < a
    · by_cases hi0 : i = 0
      · subst hi0
        go_wp2
        go_roundw
        case rel => exact ⟨1, by omega, by go_num, rfl, trivial⟩
        case measure => simp [intOf]; omega
      · obtain ⟨j, rfl⟩ : ∃ j, i = j + 1 := ⟨i - 1, by omega⟩
        have hs := ar_str j
        obtain ⟨t, ht⟩ : ∃ t : ByteArray, t = ⟨(arB (j + 1)).toArray⟩ := ⟨_, rfl⟩
        have hts : t.size ≤ 7 * (j + 1) := by
          have : t.size = (arB (j + 1)).length := by rw [ht]; show (arB (j + 1)).toArray.size = _; simp
          omega
        rw [← ht] at hs ⊢
        have hq1 : ¬ 9223372036854775807 < t.size + 1 := by omega
        have hq2 : ¬ 9223372036854775807 < t.size + 1 + 6 := by omega
        have hq3 : ¬ (9223372036854775807 : Int) < (t.size : Int) + 1 := by omega
        have hq4 : ¬ (9223372036854775807 : Int) < (t.size : Int) + 1 + 6 := by omega
        have Hs := Lib.hid hs
        clear hs ht hal
        go_wp2
        go_roundw
        case rel => exact ⟨j + 2, by omega, by go_num, by rw [Hs.out], trivial⟩
        case measure => simp [intOf]; omega
    · obtain rfl : i = a := by omega
      clear hal hlt hi
      go_wp2
      go_loopw [5, 9] (fun u5 u9 wx => ∃ j : Nat, j ≤ M ∧ u9 = .int .i64 j ∧ u5 = .string ⟨(mnB j).toArray⟩ ∧ wx = w) (fun _ u _ => M - (intOf u).toNat)
      case atStart => exact ⟨0, Nat.zero_le _, rfl, rfl, rfl⟩
      case round =>
        obtain ⟨j, hj, rfl, rfl, hw⟩ := hrel
        obtain rfl : w = wr := hw.symm
        by_cases hlt : j < M
        · have hs := mn_str j
          have hml := mnB_len j
          obtain ⟨t, ht⟩ : ∃ t : ByteArray, t = ⟨(mnB j).toArray⟩ := ⟨_, rfl⟩
          have hts : t.size ≤ 8 * j := by
            have : t.size = (mnB j).length := by rw [ht]; show (mnB j).toArray.size = _; simp
            omega
          rw [← ht] at hs ⊢
          have hq1 : ¬ 9223372036854775807 < t.size + 8 := by omega
          have hq3 : ¬ (9223372036854775807 : Int) < (t.size : Int) + 8 := by omega
          have Hs := Lib.hid hs
          clear hs ht hml
          go_wp2
          go_roundw
          case rel => exact ⟨j + 1, by omega, by go_num, by rw [Hs.out], trivial⟩
          case measure => simp [intOf]; omega
        · obtain rfl : j = M := by omega
          obtain ⟨fs1, fk1, fa1, m1, hl1, hw1, hC1⟩ := mn_parse j HMO.out hM2
          obtain ⟨fs2, fk2, fa2, m2, hl2, hw2, hC2⟩ := ar_parse i ha
          have hal := arB_len i
          obtain ⟨t, ht⟩ : ∃ t : ByteArray, t = ⟨(arB i).toArray⟩ := ⟨_, rfl⟩
          have hts : t.size ≤ 300 := by
            have : t.size = (arB i).length := by rw [ht]; show (arB i).toArray.size = _; simp
            omega
          rw [← ht] at hC2 ⊢
          obtain ⟨s, hs⟩ : ∃ s : ByteArray, s = ⟨(mnB j).toArray⟩ := ⟨_, rfl⟩
          rw [← hs] at hC1 ⊢
          have hq1 : ¬ 9223372036854775807 < 5 + t.size := by omega
          have hq2 : ¬ 9223372036854775807 < 5 + t.size + 4 := by omega
          have hq3 : ¬ (9223372036854775807 : Int) < 5 + (t.size : Int) := by omega
          have hq4 : ¬ (9223372036854775807 : Int) < 5 + (t.size : Int) + 4 := by omega
          have Hl1 := Lib.hid hl1
          have Hl2 := Lib.hid hl2
          clear ht hs hal hl1 hl2 hlt HMO
          go_upto_region 14 with (go_at_call 9; refine (hC1 w Hr.out).mono ?_; rintro e w1 h1; obtain ⟨A, c, rfl, hA, hb1⟩ := ParP_len h1 Hl1.out; have HA1 := Lib.hid hA; have HB1 := Lib.hid hb1; clear h1 hA hb1 hC1)
          obtain ⟨W2, hW2, hbW2, hzW2, hT1, hF1⟩ := two_al w1 #[.slice A m1 c] #[.int .i64 fk1, .int .i64 fa1] 24 26
          rw [← hW2]
          have HB2 := Lib.hid (HB1.out.trans (hbW2.mono HB1.out.size))
          have HT1 := Lib.hid hT1
          have HF1 := Lib.hid hF1
          clear hW2 hbW2 hT1 hF1
          go_upto_region 15 with (go_at_call 9; refine (hC2 W2 (Hr.out.up HB2.out)).mono ?_; rintro e w3 h1; obtain ⟨A2, c2, rfl, hA, hb1⟩ := ParP_len h1 Hl2.out; have HA2 := Lib.hid hA; have HB3 := Lib.hid hb1; clear h1 hA hb1 hC2)
          obtain ⟨W4, hW4, hbW4, hzW4, hT2, hF2⟩ := two_al w3 #[.slice A2 m2 c2] #[.int .i64 fk2, .int .i64 fa2] 24 26
          rw [← hW4]
          have hz3 := HB3.out.size
          have hT1' := (hbW4.block w1.heap.size (by omega)).trans ((HB3.out.block w1.heap.size (by omega)).trans HT1.out)
          have hF1' := (hbW4.block (w1.heap.size + 1) (by omega)).trans ((HB3.out.block (w1.heap.size + 1) (by omega)).trans HF1.out)
          have HB4 := Lib.hid ((HB2.out.trans (HB3.out.mono HB2.out.size)).trans (hbW4.mono (Nat.le_trans HB2.out.size hz3)))
          have hAw := awake_any W4 (Hr.out.up HB4.out)
          have HK := Lib.hid (And.intro hT1' (And.intro hF1' (And.intro hT2 hF2)))
          have HW4 := Lib.hid hbW4
          have l1 : w1.heap.size < W4.heap.size := by omega
          have l2 : w1.heap.size + 1 < W4.heap.size := by omega
          have l3 : w3.heap.size < W4.heap.size := by omega
          have l4 : w3.heap.size + 1 < W4.heap.size := by omega
          clear hW4 hT1' hF1' hT2 hF2 hbW4 HT1 HF1 HA1 hzW2 hzW4 hz3
          clear hq1 hq2 hq3 hq4 hts hwr hbe hb HB3 HB1 HB2 Hr
          rcases hw1 with ⟨k1, rfl, rfl⟩ | ⟨k1, rfl, rfl, rfl⟩
          · rcases hw2 with ⟨k2, rfl, rfl, hf⟩ | ⟨k2, rfl, rfl⟩
            · have e2 : ((i : Int) ≤ 16) = True := by simp; omega
              obtain ⟨f, hf1⟩ : ∃ f, fs2 = [f] := List.length_eq_one_iff.mp Hl2.out
              have hfp := hf f [] hf1
              obtain ⟨r, o, rfl, hro, hx⟩ := HA2.out (by rw [Hl2.out]; decide)
              obtain ⟨-, -, ⟨PA, pc, x2, -⟩, -, -, -⟩ := hx 0 f (by rw [hf1]; rfl)
              rw [hfp, Nat.zero_mul, Nat.add_zero] at x2
              have hrl : r < w3.heap.size := hro.2
              clear hf hf1 hfp hx hro HA2
              go_wp2_with (go_at_call 11; refine hAw.mono ?_; rintro e w5 ⟨rfl, hb5⟩; have d0 : w5.cell? ⟨w1.heap.size, 0, none⟩ = some (.slice A m1 c) := Lib.cell_of_heap ((hb5.block w1.heap.size l1).trans HK.out.1) 0; have d1 : w5.cell? ⟨w1.heap.size + 1, 0, none⟩ = some (.int .i64 0) := Lib.cell_of_heap ((hb5.block (w1.heap.size + 1) l2).trans HK.out.2.1) 0; have d2 : w5.cell? ⟨w1.heap.size + 1, 1, none⟩ = some (.int .i64 fa1) := Lib.cell_of_heap ((hb5.block (w1.heap.size + 1) l2).trans HK.out.2.1) 1; have d3 : w5.cell? ⟨w3.heap.size, 0, none⟩ = some (.slice (some ⟨r, o, none⟩) 1 c2) := Lib.cell_of_heap ((hb5.block w3.heap.size l3).trans HK.out.2.2.1) 0; have d4 : w5.cell? ⟨w3.heap.size + 1, 0, none⟩ = some (.int .i64 0) := Lib.cell_of_heap ((hb5.block (w3.heap.size + 1) l4).trans HK.out.2.2.2) 0; have d5 := ((hb5.cell (p := ⟨r, o + 2, none⟩) (by show r < W4.heap.size; exact Nat.lt_trans hrl l3)).trans (HW4.out.cell (p := ⟨r, o + 2, none⟩) hrl)).trans x2; have HB5 := Lib.hid (HB4.out.trans (hb5.mono HB4.out.size)); clear hb5 hAw)
              go_ret
              exact ⟨rfl, HB5.out⟩
            · have e2 : ((i : Int) ≤ 16) = False := by simp; omega
              go_wp2_with (go_at_call 11; refine hAw.mono ?_; rintro e w5 ⟨rfl, hb5⟩; have d0 : w5.cell? ⟨w1.heap.size, 0, none⟩ = some (.slice A m1 c) := Lib.cell_of_heap ((hb5.block w1.heap.size l1).trans HK.out.1) 0; have d1 : w5.cell? ⟨w1.heap.size + 1, 0, none⟩ = some (.int .i64 0) := Lib.cell_of_heap ((hb5.block (w1.heap.size + 1) l2).trans HK.out.2.1) 0; have d2 : w5.cell? ⟨w1.heap.size + 1, 1, none⟩ = some (.int .i64 fa1) := Lib.cell_of_heap ((hb5.block (w1.heap.size + 1) l2).trans HK.out.2.1) 1; have d3 : w5.cell? ⟨w3.heap.size, 0, none⟩ = some (.slice A2 0 c2) := Lib.cell_of_heap ((hb5.block w3.heap.size l3).trans HK.out.2.2.1) 0; have d4 : w5.cell? ⟨w3.heap.size + 1, 0, none⟩ = some (.int .i64 4) := Lib.cell_of_heap ((hb5.block (w3.heap.size + 1) l4).trans HK.out.2.2.2) 0; have HB5 := Lib.hid (HB4.out.trans (hb5.mono HB4.out.size)); clear hb5 hAw)
              go_ret
              exact ⟨rfl, HB5.out⟩
          · have e1 : ((j : Int) ≤ 256) = False := by simp; omega
            rcases hw2 with ⟨k2, rfl, rfl, hf⟩ | ⟨k2, rfl, rfl⟩
            · have e2 : ((i : Int) ≤ 16) = True := by simp; omega
              obtain ⟨f, hf1⟩ : ∃ f, fs2 = [f] := List.length_eq_one_iff.mp Hl2.out
              have hfp := hf f [] hf1
              obtain ⟨r, o, rfl, hro, hx⟩ := HA2.out (by rw [Hl2.out]; decide)
              obtain ⟨-, -, ⟨PA, pc, x2, -⟩, -, -, -⟩ := hx 0 f (by rw [hf1]; rfl)
              rw [hfp, Nat.zero_mul, Nat.add_zero] at x2
              have hrl : r < w3.heap.size := hro.2
              clear hf hf1 hfp hx hro HA2
              go_wp2_with (go_at_call 11; refine hAw.mono ?_; rintro e w5 ⟨rfl, hb5⟩; have d0 : w5.cell? ⟨w1.heap.size, 0, none⟩ = some (.slice A 0 c) := Lib.cell_of_heap ((hb5.block w1.heap.size l1).trans HK.out.1) 0; have d1 : w5.cell? ⟨w1.heap.size + 1, 0, none⟩ = some (.int .i64 4) := Lib.cell_of_heap ((hb5.block (w1.heap.size + 1) l2).trans HK.out.2.1) 0; have d2 : w5.cell? ⟨w1.heap.size + 1, 1, none⟩ = some (.int .i64 2048) := Lib.cell_of_heap ((hb5.block (w1.heap.size + 1) l2).trans HK.out.2.1) 1; have d3 : w5.cell? ⟨w3.heap.size, 0, none⟩ = some (.slice (some ⟨r, o, none⟩) 1 c2) := Lib.cell_of_heap ((hb5.block w3.heap.size l3).trans HK.out.2.2.1) 0; have d4 : w5.cell? ⟨w3.heap.size + 1, 0, none⟩ = some (.int .i64 0) := Lib.cell_of_heap ((hb5.block (w3.heap.size + 1) l4).trans HK.out.2.2.2) 0; have d5 := ((hb5.cell (p := ⟨r, o + 2, none⟩) (by show r < W4.heap.size; exact Nat.lt_trans hrl l3)).trans (HW4.out.cell (p := ⟨r, o + 2, none⟩) hrl)).trans x2; have HB5 := Lib.hid (HB4.out.trans (hb5.mono HB4.out.size)); clear hb5 hAw)
              go_ret
              exact ⟨rfl, HB5.out⟩
            · have e2 : ((i : Int) ≤ 16) = False := by simp; omega
              go_wp2_with (go_at_call 11; refine hAw.mono ?_; rintro e w5 ⟨rfl, hb5⟩; have d0 : w5.cell? ⟨w1.heap.size, 0, none⟩ = some (.slice A 0 c) := Lib.cell_of_heap ((hb5.block w1.heap.size l1).trans HK.out.1) 0; have d1 : w5.cell? ⟨w1.heap.size + 1, 0, none⟩ = some (.int .i64 4) := Lib.cell_of_heap ((hb5.block (w1.heap.size + 1) l2).trans HK.out.2.1) 0; have d2 : w5.cell? ⟨w1.heap.size + 1, 1, none⟩ = some (.int .i64 2048) := Lib.cell_of_heap ((hb5.block (w1.heap.size + 1) l2).trans HK.out.2.1) 1; have d3 : w5.cell? ⟨w3.heap.size, 0, none⟩ = some (.slice A2 0 c2) := Lib.cell_of_heap ((hb5.block w3.heap.size l3).trans HK.out.2.2.1) 0; have d4 : w5.cell? ⟨w3.heap.size + 1, 0, none⟩ = some (.int .i64 4) := Lib.cell_of_heap ((hb5.block (w3.heap.size + 1) l4).trans HK.out.2.2.2) 0; have HB5 := Lib.hid (HB4.out.trans (hb5.mono HB4.out.size)); clear hb5 hAw)
              go_ret
              exact ⟨rfl, HB5.out⟩
end Go.Proofs.YtnnjpegeefoecaaGreatDoor
