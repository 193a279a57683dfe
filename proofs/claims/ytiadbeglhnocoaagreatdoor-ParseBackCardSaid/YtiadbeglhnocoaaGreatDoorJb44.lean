/-
  A function, printed.
-/
import Derived.Test.YtiadbeglhnocoaaGreatDoorJb43
import Derived.Deep.DeepCutAuto
import Derived.Deep.RegionHeld3
import Derived.Outline
namespace Go.Proofs.YtiadbeglhnocoaaGreatDoor
set_option linter.unusedVariables false
set_option linter.unusedSimpArgs false
open Go.RowKit

set_option maxRecDepth 100000 in
set_option maxHeartbeats 8000000 in
theorem fnPr_any (B b : Nat) (l : List UInt8) (nm : ByteArray) (at_ : Int) (ps : List Pa) (ret : Int) (body : List St) (vars : Int) (A : Option Addr) (pc : Nat) (Bd : Option Addr) (bc : Nat) (w : World) (h : IsPr B b (Lib.byteCells l) w) (hA : RdAs w (· < B) A ps) (hBd : RdSs w (· < B) Bd 0 body)
    (hg : goodSs body) (hbl : body.length ≤ 1099511627776) (hpl : ps.length ≤ 1099511627776) (hlen : l.length + (prF ⟨nm, at_, ps, ret, body, vars⟩).length ≤ 1099511627776) (hBw : B ≤ w.heap.size) :
    Calls Tryz.prog 11 #[.pointer (some ⟨b, 0, none⟩), .agg #[.string nm, .int .i64 at_, .slice A ps.length pc, .int .i64 ret, .slice Bd body.length bc, .int .i64 vars]] w (PrS B b (l ++ prF ⟨nm, at_, ps, ret, body, vars⟩) w) := by
  obtain ⟨i0, hi, hz0, hz1, hz2⟩ := info_parts infoStr
  obtain ⟨jt, hjt⟩ : ∃ x, x = jn (ps.map paB) := ⟨_, rfl⟩
  obtain ⟨rs, hrs⟩ : ∃ x, x = resB ret := ⟨_, rfl⟩
  have hR := fun w' => result_any ret w'
  rw [← hrs] at hR
  have hp : prF ⟨nm, at_, ps, ret, body, vars⟩ = lnP 0 [[102, 110, 32], nm.data.toList, [40], jt, [41], rs, [32, 123]] ++ prSs 1 body ++ lnP 0 [[125]] := by simp [prF, hjt, hrs]
  rw [hp] at hlen ⊢
  simp only [List.length_append] at hlen
  have hjl : jt.length ≤ 1099511627776 := by
    have : jt.length ≤ (lnP 0 [[102, 110, 32], nm.data.toList, [40], jt, [41], rs, [32, 123]]).length := by unfold lnP; simp; omega
    omega
  have hps : ∀ p ∈ ps, p.name.size ≤ 1099511627776 := fun p hp => by
    have h1 := jn_mem (ps.map paB) (paB p) (List.mem_map_of_mem hp)
    rw [← hjt] at h1
    have h2 : (paB p).length = p.name.size + (2 + (typB p.type).length) := by unfold paB; simp; omega
    omega
  have Hi := Lib.hid hi
  have Hz0 := Lib.hid hz0
  have Hz1 := Lib.hid hz1
  have Hz2 := Lib.hid hz2
  obtain ⟨w1, hw1, hb1, hz, hc1⟩ := t_one_al w #[.string nm, .int .i64 at_, .slice A ps.length pc, .int .i64 ret, .slice Bd body.length bc, .int .i64 vars] 49
  have hB1 : Below B w w1 := hb1.mono hBw
  have HP1 := Lib.hid (h.below hb1)
  have HB1 := Lib.hid (And.intro hB1 (KeepT.of_below hb1))
  have Hc1 := Lib.hid hc1
  have hz1' : B ≤ w1.heap.size := by omega
  have hzw : w.heap.size < w1.heap.size := by omega
  have HA := Lib.hid (RdAs.keep (w' := w1) (fun q hq => hB1.cell hq) hA)
  have Hps := Lib.hid hps
  have Hjt := Lib.hid hjt
  have hL0 : ∀ w2, Below w1.heap.size w1 w2 → Calls Tryz.prog 22 #[.pointer (some ⟨b, 0, none⟩), .int .i64 0, .slice (some ⟨w2.heap.size, 0, none⟩) 7 7] (w2.alloc (.cells #[.string ⟨#[102, 110, 32]⟩, .string nm, .string ⟨#[40]⟩, .string ⟨jt.toArray⟩, .string ⟨#[41]⟩, .string ⟨rs.toArray⟩, .string ⟨#[32, 123]⟩] 9)) (PrS B b (l ++ lnP 0 [[102, 110, 32], nm.data.toList, [40], jt, [41], rs, [32, 123]]) w2) := fun w2 hb => line1 B b l 0 [[102, 110, 32], nm.data.toList, [40], jt, [41], rs, [32, 123]] #[.string ⟨#[102, 110, 32]⟩, .string nm, .string ⟨#[40]⟩, .string ⟨jt.toArray⟩, .string ⟨#[41]⟩, .string ⟨rs.toArray⟩, .string ⟨#[32, 123]⟩] w2 rfl (HP1.out.below hb) (by simp) (by omega) (Nat.le_trans hz1' hb.size)
  have hC1 : ∀ w2, IsPr B b (Lib.byteCells (l ++ lnP 0 [[102, 110, 32], nm.data.toList, [40], jt, [41], rs, [32, 123]])) w2 → Below B w w2 → Calls Tryz.prog 25 #[.pointer (some ⟨b, 0, none⟩), .slice Bd body.length bc, .int .i64 1] w2 (PrS B b (l ++ lnP 0 [[102, 110, 32], nm.data.toList, [40], jt, [41], rs, [32, 123]] ++ prSs 1 body) w2) := fun w2 hp hb => block_all B b (l ++ lnP 0 [[102, 110, 32], nm.data.toList, [40], jt, [41], rs, [32, 123]]) 1 Bd body bc w2 hp (RdSs.keep (w' := w2) (fun q hq => hb.cell hq) _ _ _ hBd) hg hbl (by simp only [List.length_append]; omega) (Nat.le_trans hBw hb.size) (by omega)
  have hC2 : ∀ w2, IsPr B b (Lib.byteCells (l ++ lnP 0 [[102, 110, 32], nm.data.toList, [40], jt, [41], rs, [32, 123]] ++ prSs 1 body)) w2 → B ≤ w2.heap.size → Calls Tryz.prog 22 #[.pointer (some ⟨b, 0, none⟩), .int .i64 0, .slice (some ⟨w2.heap.size, 0, none⟩) 1 1] (w2.alloc (.cells #[.string ⟨#[125]⟩] 9)) (PrS B b (l ++ lnP 0 [[102, 110, 32], nm.data.toList, [40], jt, [41], rs, [32, 123]] ++ prSs 1 body ++ lnP 0 [[125]]) w2) := fun w2 hp hz => line1 B b (l ++ lnP 0 [[102, 110, 32], nm.data.toList, [40], jt, [41], rs, [32, 123]] ++ prSs 1 body) 0 [[125]] #[.string ⟨#[125]⟩] w2 rfl hp (by simp) (by simp only [List.length_append]; omega) hz
  obtain ⟨t0, ht0⟩ : ∃ t, t = lnP 0 [[102, 110, 32], nm.data.toList, [40], jt, [41], rs, [32, 123]] := ⟨_, rfl⟩
  obtain ⟨t1, ht1⟩ : ∃ t, t = prSs 1 body := ⟨_, rfl⟩
  obtain ⟨t2, ht2⟩ : ∃ t, t = lnP 0 [[125]] := ⟨_, rfl⟩
  rw [← ht0] at hL0 hC1 hC2 ⊢
  rw [← ht1] at hC1 hC2 ⊢
  rw [← ht2] at hC2 ⊢
  obtain ⟨n, hn⟩ : ∃ n, n = ps.length := ⟨_, rfl⟩
  have Hn := Lib.hid hn
  rw [← hn] at hpl hw1 hc1
  obtain ⟨y0, y1, y2, y3, y4, y5, yf⟩ := cells6 hc1
  have hcon : (Value.slice A ps.length pc) = Value.slice A n pc := by rw [hn]
  rw [hcon]
  clear hi hz0 hz1 hz2 hb1 hB1 hA hBd hg hps hlen hn h hc1 hcon hz hp ht0 ht1 ht2 hjt hrs
  go_enter Tryz.func11, Tryz.ntmps11
  go_upto_region 1 with fail
  rw [← hw1]
  clear hw1
  go_wp2
  go_loopw [4, 10] (fun u4 u10 wr => ∃ (i : Nat) (v : Value), i ≤ n ∧ u10 = .int .i64 i ∧ u4 = v ∧ Hid (wr.ownsRow w1.heap.size 9 1 v i ((ps.take i).map fun p => Value.string (paS p))) ∧ Hid (Below w1.heap.size w1 wr)) (fun _ u _ => n - (intOf u).toNat)
  case atStart => exact ⟨0, _, Nat.zero_le _, rfl, rfl, Lib.hid (World.ownsRow_nil w1 w1.heap.size 9 1), Lib.hid (Below.refl _ _)⟩
  case round =>
    obtain ⟨i, v, hin, rfl, rfl, hown, hb⟩ := hrel
    obtain ⟨V, C, rfl⟩ := own_form hown.out
    clear y0 y1 y2 y3 y4 y5 yf
    obtain ⟨y0, y1, y2, y3, y4, y5, yf⟩ := cells6 ((hb.out.block w.heap.size hzw).trans Hc1.out)
    rw [← Hn.out] at y2
    by_cases hlt : i < n
    · have hil : i < ps.length := by rw [← Hn.out]; exact hlt
      obtain ⟨r, o, rfl, hr, hx⟩ := HA.out (by omega)
      obtain ⟨p, hp⟩ : ∃ p, ps[i]? = some p := ⟨_, List.getElem?_eq_getElem hil⟩
      obtain ⟨x0, x1⟩ := hx i p hp
      have hrw : r < w1.heap.size := Nat.lt_of_lt_of_le hr hz1'
      have up : ∀ j u, w1.cell? ⟨r, j, none⟩ = some u → wr.cell? ⟨r, j, none⟩ = some u := fun j u e => (hb.out.cell (p := ⟨r, j, none⟩) hrw).trans e
      replace x0 := up _ _ x0
      replace x1 := up _ _ x1
      have hpsz := Hps.out p (List.mem_of_getElem? hp)
      have htk : (ps.take (i + 1)).map (fun p => Value.string (paS p)) = (ps.take i).map (fun p => Value.string (paS p)) ++ [Value.string (paS p)] := by
        rw [List.take_succ_eq_append_getElem hil, List.map_append]
        congr 2
        rw [List.getElem?_eq_getElem hil] at hp
        rw [Option.some.inj hp]
        rfl
      have Htk := Lib.hid htk
      obtain ⟨pn, pt⟩ := p
      dsimp only at x0 x1 hpsz
      have hS : paS ⟨pn, pt⟩ = pn ++ ⟨#[58, 32]⟩ ++ typeA pt := rfl
      have hT := fun w' => type_any pt w'
      have hts := typeA_size pt
      rw [hS] at Htk
      obtain ⟨ty, hty⟩ : ∃ ty, ty = typeA pt := ⟨_, rfl⟩
      rw [← hty] at hT hts Htk
      obtain ⟨ps', hps'⟩ : ∃ x, x = (ps.take i).map (fun p => Value.string (paS p)) := ⟨_, rfl⟩
      rw [← hps'] at hown Htk
      have hs2 : (pn ++ ⟨#[58, 32]⟩).size ≤ 1099511627778 := by simp [ByteArray.size_append]; have : (⟨#[58, 32]⟩ : ByteArray).size = 2 := rfl; omega
      have hss : (pn ++ ⟨#[58, 32]⟩ ++ ty).size ≤ 1099511627785 := by simp [ByteArray.size_append]; have : (⟨#[58, 32]⟩ : ByteArray).size = 2 := rfl; omega
      obtain ⟨wb, hwb, hbb, hzb, hcb⟩ := t_one_al wr #[.string pn, .int .i64 pt] 66
      obtain ⟨wA, hwA, hbA, hzA, hcA⟩ := t_one_al wb.drew #[.string (pn ++ ⟨#[58, 32]⟩ ++ ty)] 9
      have hbD : Below wr.heap.size wr wA := hbb.trans ((show Below wr.heap.size wb wb.drew from (Below.refl _ _).drew).trans (hbA.mono (show wr.heap.size ≤ wb.heap.size by omega)))
      have HOW := Lib.hid (hown.out.kept (row := none) (w' := wA) ⟨hbD.os, hbD.tape, hbD.output, hbD.size, fun k hk _ => hbD.block k hk⟩ (by cases Value.ownBlock _ <;> simp))
      have HNW := Lib.hid (World.news_of_block hcA)
      have HOC := Lib.hid (one_str (pn ++ ⟨#[58, 32]⟩ ++ ty))
      have HbD := Lib.hid (hb.out.trans (hbD.mono hb.out.size))
      have hsz : w1.heap.size ≤ wA.heap.size := HbD.out.size
      have dd : wb.drew.cell? ⟨wr.heap.size, 0, none⟩ = some (.string pn) ∧ wb.drew.cell? ⟨wr.heap.size, 1, none⟩ = some (.int .i64 pt) := ⟨Lib.cell_of_heap hcb 0, Lib.cell_of_heap hcb 1⟩
      have hwbz : wr.heap.size < wb.drew.heap.size := by simp; omega
      have hcb2 := (hbA.block wr.heap.size hwbz).trans hcb
      have dd2 : wA.cell? ⟨wr.heap.size, 0, none⟩ = some (.string pn) ∧ wA.cell? ⟨wr.heap.size, 1, none⟩ = some (.int .i64 pt) := ⟨Lib.cell_of_heap hcb2 0, Lib.cell_of_heap hcb2 1⟩
      rw [hwA] at dd2
      have dd2' : (wb.alloc (.cells #[.string (pn ++ ⟨#[58, 32]⟩ ++ ty)] 9)).drew.cell? ⟨wr.heap.size, 0, none⟩ = some (.string pn) ∧ (wb.alloc (.cells #[.string (pn ++ ⟨#[58, 32]⟩ ++ ty)] 9)).drew.cell? ⟨wr.heap.size, 1, none⟩ = some (.int .i64 pt) := dd2
      have Hcb2 := Lib.hid hcb2
      have HwA := Lib.hid hwA
      have hzz : w1.heap.size ≤ wr.heap.size := hb.out.size
      have hrz : wr.heap.size < wA.heap.size := by omega
      have hgr : Hid (∀ k, (Value.slice V i C).ownBlock = some k → w1.heap.size ≤ k ∧ k < wr.heap.size) := Lib.hid fun k hk => hown.out.lt k hk
      have hq1 : ¬ 9223372036854775807 < pn.size + 2 := by omega
      have hq2 : ¬ 9223372036854775807 < pn.size + 2 + ty.size := by omega
      have hq3 : ¬ 9223372036854775807 < (pn ++ ⟨#[58, 32]⟩).size + ty.size := by omega
      have hq4 : ¬ (9223372036854775807 : Int) < (pn.size : Int) + 2 := by omega
      have hq5 : ¬ (9223372036854775807 : Int) < (pn.size : Int) + 2 + (ty.size : Int) := by omega
      have hq6 : ¬ (9223372036854775807 : Int) < ((pn ++ ⟨#[58, 32]⟩).size : Int) + (ty.size : Int) := by omega
      clear up hx hp htk hS hty hps' hbb hcb hbA hcA hbD hwA hcb2 hrw hr hown
      have x0' := x0
      have x1' := x1
      go_upto_region 5 with fail
      all_goals
        rw [← hwb]
        clear hwb x0 x1 x0' x1' y0 y1 y2 y3 y4 y5 yf
        go_region_held3 (fun w' => w'.cell? ⟨wr.heap.size, 0, none⟩ = some (.string pn) ∧ w'.cell? ⟨wr.heap.size, 1, none⟩ = some (.int .i64 pt)) (first | with_reducible exact dd | with_reducible exact dd2 | with_reducible exact dd2' | with_reducible exact dd3) (first
          | (go_at_call 21; (with_reducible refine (hT _).mono ?_); rintro e w' ⟨rfl, rfl⟩)
          | ((first | rw [← HwA.out] | rw [show (wb.alloc (.cells #[.string (pn ++ ⟨#[58, 32]⟩ ++ ty)] 9)).drew = wA from HwA.out.symm]); (refine step_append_lies _ rfl (.tmp 14) (.tmp 22) 64 rfl w1.heap.size 9 i0 (.string ⟨#[]⟩) 1 16 Tryz.underlying64 Hi.out Hz0.out Hz1.out Hz2.out rfl (by decide) (.slice V i C) i ps' (by simp [Act.eval, Act.put]) HOW.out ⟨wb.drew.heap.size, 0, none⟩ 1 1 [.string (pn ++ ⟨#[58, 32]⟩ ++ ty)] (by simp [Act.eval, Act.put]) rfl HNW.out HOC.out (by decide) (by unfold maxLen; omega) (by omega) hsz _ rfl ?_; intro gp cp2 w2 hown2 hgrow hat hlt2; have hc2 := (hgrow.block wr.heap.size hrz (fun e => by have := hgr.out _ e.symm; omega)).trans Hcb2.out; have dd3 : w2.cell? ⟨wr.heap.size, 0, none⟩ = some (.string pn) ∧ w2.cell? ⟨wr.heap.size, 1, none⟩ = some (.int .i64 pt) := ⟨Lib.cell_of_heap hc2 0, Lib.cell_of_heap hc2 1⟩; have Hown2 := Lib.hid hown2; have Hb2 := Lib.hid (HbD.out.grown hgrow hsz (fun k hk => (hgr.out k hk).1)); clear hown2 hgrow hat hlt2 hc2)))
        all_goals
          clear dd dd2 dd2' dd3
          have Hown3 : Hid (w2.ownsRow w1.heap.size 9 1 (.slice (some ⟨gp, 0, none⟩) (i + 1) cp2) (i + 1) ((ps.take (i + 1)).map fun p => Value.string (paS p))) := Lib.hid (by rw [Htk.out]; exact Hown2.out)
          go_wp2
          go_roundw
          case rel => exact ⟨i + 1, _, by omega, by go_num, rfl, Hown3, Hb2⟩
          case measure => simp [intOf]; omega
    · obtain rfl : i = n := by omega
      have hr := hown.out
      rw [Hn.out, List.take_length] at hr
      have hdr : Below wr.heap.size wr wr.drew := (Below.refl _ _).drew
      have hJ := join_any ps w1.heap.size V C wr.drew (hr.kept (row := none) (w' := wr.drew) ⟨hdr.os, hdr.tape, hdr.output, hdr.size, fun k hk _ => hdr.block k hk⟩ (by cases Value.ownBlock _ <;> simp)) (by rw [← Hn.out]; exact hpl) (by rw [← Hjt.out]; exact hjl)
      rw [← Hjt.out, ← Hn.out] at hJ
      have dd : wr.drew.cell? ⟨w.heap.size, 0, none⟩ = some (.string nm) ∧ wr.drew.cell? ⟨w.heap.size, 3, none⟩ = some (.int .i64 ret) := ⟨y0, y3⟩
      have Hbr := Lib.hid (hb.out.trans (hdr.mono hb.out.size))
      have hzwr : w1.heap.size ≤ wr.drew.heap.size := Hbr.out.size
      clear hr hdr
      go_upto_region 7 with fail
      clear y0 y1 y2 y3 y4 y5 yf
      go_region_held3 (fun w' => w'.cell? ⟨w.heap.size, 0, none⟩ = some (.string nm) ∧ w'.cell? ⟨w.heap.size, 3, none⟩ = some (.int .i64 ret)) (first | with_reducible exact dd | with_reducible exact dd2 | with_reducible exact dd3 | with_reducible exact dd4) (first
        | (go_at_call 24; (with_reducible refine (hR _).mono ?_); rintro e w' ⟨rfl, rfl⟩)
        | (go_at_call 23; refine hJ.mono ?_; rintro e v2 ⟨rfl, hb'⟩; have hb2 : Below w1.heap.size w1 v2 := Hbr.out.trans (hb'.mono hzwr); have hv2 := (hb2.block w.heap.size hzw).trans Hc1.out; have dd2 : v2.cell? ⟨w.heap.size, 0, none⟩ = some (.string nm) ∧ v2.cell? ⟨w.heap.size, 3, none⟩ = some (.int .i64 ret) := And.intro (Lib.cell_of_heap hv2 0) (Lib.cell_of_heap hv2 3); have hCt := hL0 v2 hb2; obtain ⟨v3, hv3, hbv3, _, _⟩ := t_one_al v2 #[.string ⟨#[102, 110, 32]⟩, .string nm, .string ⟨#[40]⟩, .string ⟨jt.toArray⟩, .string ⟨#[41]⟩, .string ⟨rs.toArray⟩, .string ⟨#[32, 123]⟩] 9; have hv3c := (hbv3.block w.heap.size (Nat.lt_of_lt_of_le hzw hb2.size)).trans hv2; have dd3 : v3.cell? ⟨w.heap.size, 0, none⟩ = some (.string nm) ∧ v3.cell? ⟨w.heap.size, 3, none⟩ = some (.int .i64 ret) := And.intro (Lib.cell_of_heap hv3c 0) (Lib.cell_of_heap hv3c 3); rw [hv3] at dd3; have Hv2 := Lib.hid hv2; have HBv := Lib.hid (And.intro (HB1.out.1.trans (hb2.mono hz1')) (HB1.out.2.trans (KeepT.of_below hb2))); clear hb' hb2 hv2 hv3 hbv3 hv3c hJ hL0)
        | (go_at_call 22; refine hCt.mono ?_; rintro e x0 ⟨rfl, hp, hb', hkp⟩; have Hn0 := Lib.hid (hkp _ _ _ _ Hv2.out (by decide) (by decide)); have dd4 : x0.cell? ⟨w.heap.size, 0, none⟩ = some (.string nm) ∧ x0.cell? ⟨w.heap.size, 3, none⟩ = some (.int .i64 ret) := And.intro (Lib.cell_of_heap Hn0.out 0) (Lib.cell_of_heap Hn0.out 3); have Hq0 := Lib.hid hp; have Hr0 := Lib.hid (And.intro (HBv.out.1.trans hb') (HBv.out.2.trans hkp)); clear hp hb' hkp hCt))
      all_goals
        clear dd dd2 dd3 dd4
        have hzx : B ≤ x0.heap.size := by have := Hr0.out.1.size; omega
        obtain ⟨y0, y1, y2, y3, y4, y5, yf⟩ := cells6 Hn0.out
        go_upto_region 9 with (go_at_call 25; refine (hC1 x0 Hq0.out Hr0.out.1).mono ?_; rintro e x1 ⟨rfl, hp, hb', hkp⟩; have Hq1 := Lib.hid hp; have Hr1 := Lib.hid (And.intro (Hr0.out.1.trans hb') (Hr0.out.2.trans hkp)); clear hp hb' hkp hC1 y0 y1 y2 y3 y4 y5 yf)
        have hzx1 : B ≤ x1.heap.size := by have := Hr1.out.1.size; omega
        go_wp2_with (go_at_call 22; refine (hC2 x1 Hq1.out hzx1).mono ?_; rintro e x2 ⟨rfl, hp, hb', hkp⟩; have Hq2 := Lib.hid hp; have Hr2 := Lib.hid (And.intro (Hr1.out.1.trans hb') (Hr1.out.2.trans hkp)); clear hp hb' hkp hC2)
        go_end0
        refine ⟨rfl, ?_, Hr2.out.1, Hr2.out.2⟩
        simp only [← List.append_assoc]
        exact Hq2.out
end Go.Proofs.YtiadbeglhnocoaaGreatDoor
