/-
  The card of IrPrints, the second form: for any function of bulk at most 1048576, ir.Print answers the text that the reference answers; the function reads as it did.
-/
import Derived.Test.YtglobeajmdieaaaDoorCards
import Derived.Test.YtglobeajmdieaaaDoorTie
import Derived.Test.YtglobeajmdieaaaDoorIpO
import Derived.ProofKit
import Derived.LaidMore
import Derived.OpenShut
import Derived.Carry
import Derived.Stop.Joined
import Derived.Stop.LaidErr
import Derived.Lib.LaidTab
import Derived.Deep.DeepHandedRow
import Derived.SevenTiedAt
namespace Go.Proofs.YtglobeajmdieaaaDoor
open Go.ChangeShapes Go.WideShapes Go.ChangeAt Go.RowKit
set_option linter.unusedVariables false

theorem ip_own : ownKnob Tryd.prog.godebug = none := by kernel_rfl
theorem ip_laidOut : laidOutB Tryd.prog = true := by kernel_rfl
theorem gTab : Tryd.prog.globalNamed "internal/strconv.uint64pow10" = some 0 := by kernel_rfl
theorem tTab : (Tryd.prog.globals[0]?).map (·.type) = some 73 := by kernel_rfl
theorem celT : Tryd.prog.cellsOf 73 = 20 := by kernel_rfl
theorem celU : Tryd.prog.cellsOf 63 = 1 := by kernel_rfl
theorem ip_met (os : Os) (args : Array Value) : laidMetH Tryd.prog Rows.irPrintsUptoRow.laid ((World.doorLaid Tryd.prog 400 os).forCall (fun _ _ => 0) ⟨#[], args, []⟩).memory :=
  laidMetH_of_parts3 (fuel := 8) (laidMet_of_run' 8 (by kernel_rfl) (by kernel_rfl)) (by kernel_rfl) (by kernel_rfl)
theorem ip_tab {W : World} (h : laidMetH Tryd.prog Rows.irPrintsUptoRow.laid W) : Lib.TabIs Tryd.prog W "internal/strconv.uint64pow10" .u64 Lib.pow10Tab := by
  rw [MakeChecks.laidMetH_plain _ _ _ (by kernel_rfl)] at h
  have h2 := laidMet.tail (laidMet.tail h)
  exact Lib.tabIs_of_head gTab tTab Tryd.underlying73 Tryd.underlying63 celU celT h2

theorem ip_contract (H : Type) (enc : TypeId × Value → H) (W : World) (base : Nat) (args : Array Value) (ds gs : List (DataW H)) (before : List MemPlace)
    (hval0 : ∀ (j : Nat) t v, Tryd.f3.params[j]? = some t → args[j]? = some v → Value.okWide Tryd.prog W .any base t v)
    (hW : DataW.Whole enc Tryd.prog Tryd.f3.params.toList Rows.irPrintsSpec.vars false W args.toList ds gs before) (hk : Rows.uptoSmall H (ds ++ gs) = true) (hL : laidMetH Tryd.prog Rows.irPrintsUptoRow.laid W) :
    Calls Tryd.prog 3 args W fun e W' => ∃ v, e = .returned v ∧ Rows.irPrintsSpec.post enc Tryd.prog Tryd.f3 false true false false W args v W' := by
  have hval : ∀ (j : Nat) t v, Tryd.f3.params[j]? = some t → args[j]? = some v → Value.okWide Tryd.prog W .any base t v := hval0
  have hW' := hW
  obtain ⟨p, q, hA0, hV, rfl, hfz, hnd⟩ := hW
  have hA : DataW.TrodAll enc Tryd.prog W 0 (fun _ => true) true Tryd.f3.params.toList args.toList ds p := hA0
  rw [Tryd.params3] at hA hval
  obtain ⟨v0, vs0, d0, ds0, p0, q0, hargs, rfl, rfl, h0, r0⟩ := trodAll_cons hA
  obtain ⟨rfl, rfl, rfl⟩ := trodAll_nil r0
  obtain rfl : args = #[v0] := by cases args; simp_all
  obtain ⟨rfl, rfl⟩ := trodVars_none hV
  have hb : Rows.uptoBulk d0 ≤ 1048576 := by
    have h := of_decide_eq_true hk
    simp only [List.append_nil, Rows.uptoBulkAll] at h
    omega
  have hv := hval 0 26 v0 rfl rfl
  unfold Value.okWide at hv
  rw [Tryd.underlying26] at hv
  obtain ⟨cs, rfl, -, -⟩ := hv
  have k0 := h0
  obtain ⟨fuel, hf⟩ := h0
  obtain ⟨s, PA, pn, pc, r, IA, n, ic, BA, m, bc, ps, is, bs, hcs, hs, hp, hpl, hr, hic, hbc, hri, hrb, hio, hbo, hsum⟩ := open_func hf hb
  have hcs' : cs = #[.string s, .slice PA pn pc, .int .i64 r, .slice IA n ic, .slice BA m bc] := by
    apply Array.toList_inj.1
    exact hcs
  subst hcs'
  clear hA0 hval0 hval hf hcs
  simp only [List.append_nil] at hW'
  have hlt : ∀ x ∈ p0, x.block < W.heap.size := fun x hx => by simpa using hW'.lt x (by simp [hx])
  have htab := Lib.tabBelow_of_tabIs (ip_tab hL)
  have hlen : (blocksP (is.take 60) (bs.take 30) 0).length ≤ 100000000000000 := by
    have h1 := blocks_len (is.take 60) (fun d hd => hio d (List.mem_of_mem_take hd)) (bs.take 30) 0 (by rw [List.length_take]; omega) (fun d hd => hbo d (List.mem_of_mem_take hd))
    have h2 := sum_take bs 30
    have h3 : (bs.take 30).length ≤ 30 := by rw [List.length_take]; omega
    omega
  refine (irPrints_any s PA pn pc r IA n ic BA m bc ps is bs W hri hrb hic hbc hio hbo hp hpl hr hs hlen htab).mono fun e W' ⟨he, hb⟩ => ?_
  subst he
  exact ⟨_, rfl, _, _, _, [], _, [], hW', trodAll_cons_mk (shut_bool Tryd.underlying4 _) trodAll_mk0, trodAll_cons_mk (Below.trod ip_laidOut (by kernel_rfl) (of_decide_eq_true (by kernel_rfl)) k0 hb hlt) trodAll_mk0, rfl, hb.frame _, fun h => by cases h⟩

theorem ip_reads (os : Os) {H : Type} (enc : TypeId × Value → H) : ∃ places, DataW.whole enc Tryd.prog ((World.doorLaid Tryd.prog 400 os).forCall (fun _ _ => 0) ⟨#[], #[.agg #[.string ⟨#[]⟩, .slice none 0 0, .int .i64 0, .slice none 0 0, .slice none 0 0]], []⟩).memory Tryd.f3.params.toList Rows.irPrintsSpec.vars false #[Value.agg #[.string ⟨#[]⟩, .slice none 0 0, .int .i64 0, .slice none 0 0, .slice none 0 0]].toList 8 = some ([.agg [.lit (.string []), .nil, .lit (.int .i64 0), .nil, .nil]], [], places) :=
  ⟨[], by kernel_rfl⟩
set_option maxRecDepth 100000 in
theorem ip_lifted (os : Os) (started : os.Started) (H : Type) (enc : TypeId × Value → H) (F : Stop.Interp) :
    ReturnsInHanded {} Tryd.checked os 3 .any ((Rows.OpenSpec.upto Rows.irPrintsSpec).preRow enc Tryd.prog Tryd.f3 Rows.irPrintsUptoRow.domain false Rows.irPrintsUptoRow.laid) (((Rows.OpenSpec.upto Rows.irPrintsSpec).at F).post enc Tryd.prog Tryd.f3 false true false false) := by
  obtain ⟨places, hx⟩ := ip_reads os enc
  refine returnsInHanded_of_row (C := Tryd.checked) (s := Rows.OpenSpec.upto Rows.irPrintsSpec) ip_own started (by kernel_rfl) Tryd.func3
    (witness_row_at (enc := enc) (C := Tryd.checked) false (World.doorLaid Tryd.prog 400 os) #[.agg #[.string ⟨#[]⟩, .slice none 0 0, .int .i64 0, .slice none 0 0, .slice none 0 0]] rfl (by kernel_rfl) (by kernel_rfl) (by kernel_rfl)
      (OpenSpec.preRow_of_cond 8 hx (by kernel_rfl) (fun k hk => by cases hk; kernel_rfl) (by kernel_rfl) (ip_met os _))) ?_
  intro W base args ds gs before hval hW _ hcond _ hL _ _
  exact ip_contract H enc W base args ds gs before hval hW (hcond _ rfl) hL

theorem irPrints_upto : Rows.IrPrintsUptoSaid :=
  OpenClaim.holds_of_cond 3 Tryd.f3 rfl rfl rfl rfl rfl rfl rfl ⟨rfl, rfl, rfl, rfl, rfl⟩ rfl rfl rfl rfl rfl (by kernel_rfl) Tryd.func3 (by kernel_rfl)
    (of_decide_eq_true (by kernel_rfl)) (by unfold Func.isWrapper; first | (rw [if_pos (by decide +kernel)]; kernel_rfl) | (rw [if_neg (by decide +kernel)]; exact ⟨rfl, rfl⟩))
    (fun os started H enc _ F => by rw [OpenClaim.pre_eq_preRow]; exact ip_lifted os started H enc F)
theorem ip_plain (f : FuncId) (fn : Func) (hf : Tryd.pinned.checked.prog.funcNamed "distaff/distafflaw07.IrPrints" = some f) (hfn : Tryd.pinned.checked.prog.funcs[f]? = some fn) :
    false = Tryd.pinned.checked.prog.looks [] ∧ ∀ (j : Nat) t, fn.params[j]? = some t → Tryd.pinned.checked.prog.wantsStandIn t = false := by
  obtain rfl : f = 3 := Option.some.inj ((show Tryd.prog.funcNamed "distaff/distafflaw07.IrPrints" = some 3 by kernel_rfl).symm.trans hf) |>.symm
  obtain rfl : fn = Tryd.f3 := (Option.some.inj (Tryd.func3.symm.trans hfn)).symm
  refine ⟨by kernel_rfl, fun j t ht => ?_⟩
  rw [Tryd.params3] at ht
  obtain rfl : t = 26 := by simpa using Array.mem_of_getElem? ht
  exact (show Tryd.prog.wantsStandIn 26 = false by kernel_rfl)

/-- THE CARD. -/
theorem irPrintsUpto_card : Rows.IrPrintsUptoCardSaid :=
  Claim7.holds_tied_plain_at .later [] _ _ _ _ irPrints_upto (fun _ h => by cases h) (by kernel_rfl) (fun _ h => by cases h) irPrintsUpto_row_tie rfl ⟨rfl, rfl⟩ (by kernel_rfl) rfl ip_plain (by kernel_rfl)
#print axioms irPrintsUpto_card
end Go.Proofs.YtglobeajmdieaaaDoor
