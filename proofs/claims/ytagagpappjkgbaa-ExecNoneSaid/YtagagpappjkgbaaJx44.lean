/-
  Blocks on all ways: the tree's row.
-/
import Derived.Test.YtagagpappjkgbaaJx42
import Derived.Test.YtagagpappjkgbaaJx43
namespace Go.Proofs.Ytagagpappjkgbaa
set_option linter.unusedVariables false
set_option linter.unusedSimpArgs false
open Go.RowKit Go.Shelf

attribute [local go_sem] Oper.semAt_some

def near (x : Int) : Prop := 0 ≤ x ∧ x < 1099511627776
instance (x : Int) : Decidable (near x) := by unfold near; exact inferInstance
def mnRun (up : List Int) : List Int → List Int → Option (List Int)
  | [], many => some many
  | b :: bs, many => (rdI many b).bind fun m => if near m then (rdI up b).bind fun u =>
      if u = -1 then mnRun up bs (many.set b.toNat (m + 1))
      else (rdI (many.set b.toNat (m + 1)) u).bind fun mu => if near mu then mnRun up bs ((many.set b.toNat (m + 1)).set u.toNat (mu + (many.set b.toNat (m + 1)).getD b.toNat 0)) else none
    else none
def plRun (up many : List Int) : List Int → List Int → List Int → Option (List Int × List Int)
  | [], place, past => some (place, past)
  | b :: bs, place, past => (rdI place b).bind fun _ => (rdI up b).bind fun u =>
      if u = -1 then plRun up many bs (place.set b.toNat 0) (past.set b.toNat 1)
      else (rdI past u).bind fun pu => (rdI many b).bind fun mb => if near pu ∧ near mb then
        plRun up many bs ((place.set b.toNat 0).set b.toNat pu) ((past.set u.toNat (pu + mb)).set b.toNat (pu + 1)) else none
/-- One row is another one, the rest is as it was. -/
theorem Sq.after1 {T : TypeId} {w Wf : World} {base E k b : Nat} {F : Nat → GRw} {cs : List Value} {l l' : List Int} (h : Sq T w base E F cs) (hk : F k = wholeR b l) (hl : l'.length = l.length) (hlb : l.length ≤ 1048576) (hz : w.heap.size ≤ Wf.heap.size)
    (hs : ∀ j, j < w.heap.size → j ≠ b → Wf.heap[j]? = w.heap[j]?) (hb : IRow Wf b l') : Sq T Wf base E (upG F k (wholeR b l')) cs := by
  have hEb : E ≠ b := fun e => h.fam.av k (by rw [hk, e]; rfl)
  have hbb : base ≤ b := ((h.fam.own k).lt b (by rw [hk]; rfl)).1
  have hv : ∀ j, ((upG F k (wholeR b l')) j).v.ownBlock = (F j).v.ownBlock := fun j => by
    by_cases e : j = k
    · subst e; rw [upG_at, hk]; rfl
    · rw [upG_off _ _ _ _ e]
  refine ⟨⟨Nat.lt_of_lt_of_le h.fam.el hz, fun j => by rw [hv]; exact h.fam.av j, fun j => ?_, fun i j hij => by rw [hv, hv]; exact h.fam.ne i j hij⟩, (hs E h.fam.el hEb).trans h.box, h.bE, Nat.le_trans h.hb hz⟩
  by_cases e : j = k
  · subst e; rw [upG_at]; exact hb.own rfl hbb (by omega)
  · rw [upG_off _ _ _ _ e]
    refine own_same (h.fam.own j) (fun g hg => hs g ((h.fam.own j).lt g hg).2 (fun e2 => ?_))
    rcases h.fam.ne j k e with q | q
    · rw [hg] at q; cases q
    · rw [hg, hk, e2] at q; exact q rfl
theorem Fx.row6 {w w' : World} {E b g k : Nat} {F : Nat → GRw} {o : Obj} {l : List Int} (h : Fx w E F b o) (hb : Below w.heap.size w w') (hg : w.heap.size ≤ g) : Fx w' E (upG F k (wholeR g l)) b o := by
  have hk := h.keep hb
  have := gr_in h.at_
  refine ⟨hk.at_, fun j => ?_, hk.nE⟩
  by_cases e : j = k
  · subst e; rw [upG_at]; simp only [wholeR, Value.ownBlock, ne_eq, Option.some.injEq]; omega
  · rw [upG_off _ _ _ _ e]; exact hk.ne j
structure RwP (base tp bt mx D mb n : Nat) (w0 : World) (F0 : Nat → GRw) (many : List Int) (w : World) (F : Nat → GRw) (cs : List Value) : Prop where
  sq : Sq 194 w base tp F cs
  fb : Fx w tp F bt (.cells #[.pointer (some ⟨tp, 0, none⟩)] 171 (0, 0))
  fm : Fx w tp F mx (.cells #[.slice (some ⟨mb, 0, none⟩) n n] 64 (0, 0))
  fd : Fx w tp F D (.deferred (some []))
  f9 : F 9 = wholeR mb many
  fo : ∀ i, i ≠ 4 → i ≠ 5 → i ≠ 9 → F i = F0 i
  bw : Below base w0 w
section
variable {base tp bt mx D mb n : Nat} {w0 w w' : World} {F0 F : Nat → GRw} {many : List Int} {cs : List Value}
theorem RwP.keep (h : RwP base tp bt mx D mb n w0 F0 many w F cs) (hb : Below w.heap.size w w') : RwP base tp bt mx D mb n w0 F0 many w' F cs := ⟨h.sq.keep hb, h.fb.keep hb, h.fm.keep hb, h.fd.keep hb, h.f9, h.fo, h.bw.trans (hb.mono h.sq.hb)⟩
theorem RwP.row {k g : Nat} {l : List Int} (h : RwP base tp bt mx D mb n w0 F0 many w F cs) (hk : F k = noRow) (h45 : k = 4 ∨ k = 5) (hb : Below w.heap.size w w') (hg : w.heap.size ≤ g) (hr : IRow w' g l) (hl : l.length ≤ 1048576) : RwP base tp bt mx D mb n w0 F0 many w' (upG F k (wholeR g l)) cs :=
  ⟨h.sq.row6 hk hb hg hr hl, h.fb.row6 hb hg, h.fm.row6 hb hg, h.fd.row6 hb hg, by rw [upG_off _ _ _ _ (by omega)]; exact h.f9, fun i h4 h5 h9 => by rw [upG_off _ _ _ _ (by omega)]; exact h.fo i h4 h5 h9, h.bw.trans (hb.mono h.sq.hb)⟩
theorem RwP.field (h : RwP base tp bt mx D mb n w0 F0 many w F cs) (j : Nat) (u : Value) : RwP base tp bt mx D mb n w0 F0 many (w.setCell ⟨tp, j, none⟩ u) F (cs.set j u) :=
  ⟨h.sq.field j u, h.fb.field j u, h.fm.field j u, h.fd.field j u, h.f9, h.fo, h.bw.trans (h.sq.b_field j u)⟩
theorem RwP.set {k b : Nat} {l : List Int} (h : RwP base tp bt mx D mb n w0 F0 many w F cs) (hk : F k = wholeR b l) (h45 : k = 4 ∨ k = 5) (j : Nat) (x : Int) : RwP base tp bt mx D mb n w0 F0 many (w.setCell ⟨b, j, none⟩ (.int .i64 x)) (upG F k (wholeR b (l.set j x))) cs := by
  have hv : (F k).v.ownBlock = some b := by rw [hk]; rfl
  exact ⟨h.sq.set hk j x, h.fb.put hv j _ _ rfl, h.fm.put hv j _ _ rfl, h.fd.put hv j _ _ rfl, by rw [upG_off _ _ _ _ (by omega)]; exact h.f9, fun i h4 h5 h9 => by rw [upG_off _ _ _ _ (by omega)]; exact h.fo i h4 h5 h9, h.bw.trans (h.sq.b_put hk j _)⟩
end
def RwF (bt mx mb tp ub : Nat) : Nat → Prop := fun k => k = bt ∨ k = mx ∨ k = mb ∨ k = tp ∨ k = ub
def RwI (bt mx mb tp ub n : Nat) (cs : List Value) (up manyE : List Int) (xs : List (Nat × Int)) (pre : List (Nat × Int)) (F : Nat → Prop) (A : World) : Prop :=
  F = RwF bt mx mb tp ub ∧ A.heap[bt]? = some (.cells #[.pointer (some ⟨tp, 0, none⟩)] 171 (0, 0)) ∧ A.heap[mx]? = some (.cells #[.slice (some ⟨mb, 0, none⟩) n n] 64 (0, 0)) ∧ A.heap[tp]? = some (.cells cs.toArray 194 (0, 0)) ∧ IRow A ub up ∧ ∃ many, many.length = n ∧ IRow A mb many ∧ mnRun up ((xs.drop pre.length).map (·.2)) many = some manyE

set_option maxRecDepth 100000 in
set_option maxHeartbeats 32000000 in
theorem row_g (base tp n no ub gk db : Nat) (A0 : Option Addr) (c0 : Nat) (order up many place past : List Int) (l0 l1 l2 : Value) (F0 : Nat → GRw) (w : World)
    (h : Sq 194 w base tp F0 [.slice A0 no c0, sl ub n, sl gk n, sl db n, .slice none 0 0, .slice none 0 0, l0, l1, l2]) (f0 : F0 0 = intR (.slice A0 no c0) order) (f1 : F0 1 = wholeR ub up) (hoff : ∀ i, 3 < i → i < 10 → F0 i = noRow)
    (hno : order.length = no) (hnob : no ≤ 1048576) (hul : up.length = n) (hn1 : 1 ≤ n) (hnb : n ≤ 1048576) (hmn : mnRun up order.reverse (List.replicate n 0) = some many) (hpl : plRun up many order (List.replicate n (-1)) (List.replicate n 0) = some (place, past)) :
    Calls Try.prog 144 #[.pointer (some ⟨tp, 0, none⟩)] w fun e w' => e = .returned (.tuple #[]) ∧ ∃ pb qb F, Sq 194 w' base tp F [.slice A0 no c0, sl ub n, sl gk n, sl db n, sl pb n, sl qb n, l0, l1, l2] ∧ (∀ i, i ≠ 4 → i ≠ 5 → F i = F0 i) ∧ F 4 = wholeR pb place ∧ F 5 = wholeR qb past ∧ place.length = n ∧ past.length = n ∧ Below base w w' := by
  obtain ⟨i0, hi0, hz0, hz1, hz2⟩ := info_parts infoIntG
  have Ji := Lib.hid hi0
  have Jz0 := Lib.hid hz0
  have Jz1 := Lib.hid hz1
  have Jz2 := Lib.hid hz2
  obtain ⟨X, hX, hbX, hzX, h0X⟩ := gr_one w #[.pointer (some ⟨tp, 0, none⟩)] 171
  have hSX := h.keep hbX
  have htpl : tp < w.heap.size := h.fam.el
  have hFX : Fx X tp F0 w.heap.size (.cells #[.pointer (some ⟨tp, 0, none⟩)] 171 (0, 0)) := ⟨h0X, fun k e => by have := ((h.fam.own k).lt _ e).2; omega, by omega⟩
  have b0 := Lib.cell_of_heap h0X 0
  have c1 : X.cell? ⟨tp, 1, none⟩ = some (.slice (some ⟨ub, 0, none⟩) n n) := hSX.cell 1 _ rfl
  have hwb : base ≤ w.heap.size := h.hb
  have HX := Lib.hid hX
  have HSX := Lib.hid hSX
  have HFX := Lib.hid hFX
  have HBX : Hid (Below base w X) := Lib.hid (hbX.mono hwb)
  have HF0 := Lib.hid f0
  have HF1 := Lib.hid f1
  have Hoff := Lib.hid hoff
  have Hno := Lib.hid hno
  have Hul := Lib.hid hul
  have Hmn := Lib.hid hmn
  have Hpl := Lib.hid hpl
  clear hi0 hz0 hz1 hz2 hX hbX hzX h0X hSX hFX f0 f1 hoff hno hul hmn hpl h
  refine calls_of_wp_marks Try.func144 rfl ?_
  simp only [Try.ntmps144, List.size_toArray, List.length_cons, List.length_nil, Nat.reduceAdd, Nat.reduceSub, Array.replicate_succ, Array.replicate_zero, List.push_toArray, List.append_toArray, List.nil_append, List.cons_append]
  go_upto_region 1 with fail
  rw [← HX.out]
  go_wp2_with (at_make; refine wpList_make_full _ rfl (.tmp 13) (.tmp 13) 64 rfl X.heap.size 3 i0 (.int .i64 0) 1 Try.underlying64 Ji.out Jz0.out Jz1.out _ _ _ _ n rfl rfl rfl rfl (by rw [Jz2.out]; omega) (by unfold maxLen; omega) (Nat.le_refl _) ?_)
  intro w3 ho3 hg3
  have hb3 : Below X.heap.size X w3 := (Below.refl _ _).grown hg3 (Nat.le_refl _) (fun k e => by cases e)
  rw [madeInt] at ho3
  have e9 : F0 9 = noRow := Hoff.out 9 (by omega) (by omega)
  obtain ⟨mb, hmb⟩ : ∃ mb, mb = X.heap.size := ⟨_, rfl⟩
  have hs3 := HSX.out.new 9 (by rw [e9]; rfl) hb3 (wholeR X.heap.size (List.replicate n 0)) (by simpa [wholeR, intsV] using ho3)
  have hf3 : Fx w3 tp (upG F0 9 (wholeR X.heap.size (List.replicate n 0))) w.heap.size (.cells #[.pointer (some ⟨tp, 0, none⟩)] 171 (0, 0)) := HFX.out.grown 9 (by rw [e9]; exact hg3) _ (fun g e => .inr (by simp only [wholeR, Value.ownBlock, Option.some.injEq] at e; omega))
  obtain ⟨F1, hF1⟩ : ∃ F1, F1 = upG F0 9 (wholeR X.heap.size (List.replicate n 0)) := ⟨_, rfl⟩
  rw [← hF1] at hs3 hf3
  have hF19 : F1 9 = wholeR mb (List.replicate n 0) := by rw [hF1, upG_at, hmb]
  have hF1o : ∀ i, i ≠ 9 → F1 i = F0 i := fun i hi => by rw [hF1]; exact upG_off _ _ _ _ hi
  rw [← hmb]
  obtain ⟨V, hV, hbV, hzV, h0V⟩ := gr_one w3 #[.slice (some ⟨mb, 0, none⟩) n n] 64
  have hSV := hs3.keep hbV
  have hFtV := hf3.keep hbV
  have hFmV : Fx V tp F1 w3.heap.size (.cells #[.slice (some ⟨mb, 0, none⟩) n n] 64 (0, 0)) := ⟨h0V, fun k e => by have := ((hs3.fam.own k).lt _ e).2; omega, by have := hs3.fam.el; omega⟩
  have HSV := Lib.hid hSV
  have HFt := Lib.hid hFtV
  have HFm := Lib.hid hFmV
  have HV := Lib.hid hV
  have HF19 := Lib.hid hF19
  have HF1o := Lib.hid hF1o
  have HBV : Hid (Below base w V) := Lib.hid (HBX.out.trans ((hb3.mono (by have := HSX.out.hb; omega)).trans (hbV.mono hs3.hb)))
  have g0 := Lib.cell_of_heap hFtV.at_ 0
  have gO : V.cell? ⟨tp, 0, none⟩ = some (.slice A0 no c0) := hSV.cell 0 _ rfl
  have hBk := backward_g A0 no c0 V
  clear ho3 hg3 hb3 e9 hs3 hf3 hF1 hF19 hF1o hV hbV hzV h0V hSV hFtV hFmV HSX HFX HX HBX hmb
  go_upto_region 2 with fail
  rw [← HV.out]
  clear b0 c1 HV
  go_wp2_with (go_at_call 162; refine hBk.mono ?_; rintro e w8 ⟨rfl, hb8, hz8, h08⟩; have Hb8 := Lib.hid hb8; have Hz8 := Lib.hid hz8; have H08 := Lib.hid h08; clear hb8 hz8 h08 hBk g0 gO)
  have hz8 := Hz8.out
  have hS8 := HSV.out.keep Hb8.out
  have hft8 := HFt.out.keep Hb8.out
  have hfm8 := HFm.out.keep Hb8.out
  have ha0 : F1 0 = intR (.slice A0 no c0) order := (HF1o.out 0 (by omega)).trans HF0.out
  have ha1 : F1 1 = wholeR ub up := (HF1o.out 1 (by omega)).trans HF1.out
  have hbtV := gr_in HFt.out.at_
  have hmxV := gr_in HFm.out.at_
  have htpV := HSV.out.fam.el
  have hmbV := ((HSV.out.fam.own 9).lt mb (by rw [HF19.out]; rfl)).2
  have hubV := ((HSV.out.fam.own 1).lt ub (by rw [ha1]; rfl)).2
  obtain ⟨bt, hbt⟩ : ∃ bt, bt = w.heap.size := ⟨_, rfl⟩
  obtain ⟨mx, hmx⟩ : ∃ mx, mx = w3.heap.size := ⟨_, rfl⟩
  have Hbt := Lib.hid hbt
  rw [← hbt] at HFt hft8 hbtV ⊢
  rw [← hmx] at HFm hfm8 hmxV ⊢
  have hn1 : ∀ k b l, F1 k = wholeR b l → b ≠ bt ∧ b ≠ mx ∧ b ≠ tp := fun k b l hk => ⟨fun e => HFt.out.ne k (by rw [hk, ← e]; rfl), fun e => HFm.out.ne k (by rw [hk, ← e]; rfl), fun e => HSV.out.fam.av k (by rw [hk, ← e]; rfl)⟩
  obtain ⟨m1, m2, m3⟩ := hn1 9 _ _ HF19.out
  obtain ⟨u1, u2, u3⟩ := hn1 1 _ _ ha1
  have hmu : mb ≠ ub := fun e => by
    rcases HSV.out.fam.ne 9 1 (by omega) with q | q
    · rw [HF19.out] at q; cases q
    · rw [HF19.out, ha1, e] at q; exact q rfl
  have hbm : bt ≠ mx := fun e => by
    have h1 := HFt.out.at_
    rw [e, HFm.out.at_] at h1
    simp at h1
  have hoE : ∀ g, (Value.slice A0 no c0).ownBlock = some g → g ≠ bt ∧ g ≠ mx ∧ g ≠ mb ∧ g ≠ tp ∧ g ≠ ub ∧ g < V.heap.size := fun g hg => by
    have h0 : (F1 0).v.ownBlock = some g := by rw [ha0]; exact hg
    have hd : ∀ k bk lk, k ≠ 0 → F1 k = wholeR bk lk → g ≠ bk := fun k bk lk hk hf e => by
      rcases HSV.out.fam.ne k 0 hk with q | q
      · rw [hf] at q; cases q
      · rw [hf, h0] at q; exact q (by simp [wholeR, Value.ownBlock, e])
    exact ⟨fun e => HFt.out.ne 0 (by rw [h0, e]), fun e => HFm.out.ne 0 (by rw [h0, e]), hd 9 _ _ (by omega) HF19.out, fun e => HSV.out.fam.av 0 (by rw [h0, e]), hd 1 _ _ (by omega) ha1, ((HSV.out.fam.own 0).lt g h0).2⟩
  have hseq : ∀ W1, Below w8.heap.size w8 W1 → SepGivs Try.prog 165 #[.pointer (some ⟨V.heap.size, 0, none⟩)] encB (backL order) (fun k => k = V.heap.size ∨ (Value.slice A0 no c0).ownBlock = some k) NoW (fun _ => True) W1 := fun W1 h1 => by
    refine backward_sep V.heap.size A0 no c0 order _ W1 (Lib.cell_of_heap ((h1.block _ (by omega)).trans H08.out) 0) Hno.out.symm hnob (fun hm => ?_) (.inl rfl) (fun k hk => ?_)
    · have hlo : 0 < order.length := by rw [Hno.out]; exact hm
      obtain ⟨g, rfl, -⟩ := (hS8.keep h1).read ha0 hlo
      refine ⟨g, rfl, .inr rfl, fun j hj => ?_⟩
      have hjl : j < order.length := by rw [Hno.out]; exact hj
      obtain ⟨g2, hg2, hc⟩ := (hS8.keep h1).read ha0 hjl
      injection hg2 with hg2
      injection hg2 with hg2
      subst hg2
      rw [hc]
      simp [List.getD, hjl]
    · have := h1.size
      rcases hk with rfl | hk
      · omega
      · have := (hoE k hk).2.2.2.2.2; omega
  have hI0 : RwI bt mx mb tp ub n [.slice A0 no c0, sl ub n, sl gk n, sl db n, .slice none 0 0, .slice none 0 0, l0, l1, l2] up many (backL order) [] (RwF bt mx mb tp ub) w8 := ⟨rfl, hft8.at_, hfm8.at_, hS8.box, hS8.whole ha1, _, by simp, hS8.whole HF19.out, by rw [List.length_nil, List.drop_zero, backL_snd]; exact Hmn.out⟩
  have hsz8 := Hb8.out.size
  have Hseq := Lib.hid hseq
  have HI0 := Lib.hid hI0
  have HoE := Lib.hid hoE
  have Ha := Lib.hid (And.intro ha0 ha1)
  clear hseq hI0 hoE hS8 hft8 hfm8 ha0 ha1 hn1 hbt hmx
  refine wp_range_back (q := 4) rfl enters_backward (fun W1 h => Hseq.out W1 h)
    (RwI bt mx mb tp ub n [.slice A0 no c0, sl ub n, sl gk n, sl db n, .slice none 0 0, .slice none 0 0, l0, l1, l2] up many (backL order)) (RwF bt mx mb tp ub) ?ioff1 ?ilt1 ?f01 ?s1 ?i01 ?assign1 ?body1 ?done1
  case ioff1 =>
    rintro pre F A B ⟨rfl, h1, h2, h3, h4, mn, hl, h5, hcm⟩ hst
    exact ⟨rfl, (hst.block _ (.inl rfl)).trans h1, (hst.block _ (.inr (.inl rfl))).trans h2, (hst.block _ (.inr (.inr (.inr (.inl rfl))))).trans h3, h4.keep (hst.block _ (.inr (.inr (.inr (.inr rfl))))), mn, hl, h5.keep (hst.block _ (.inr (.inr (.inl rfl)))), hcm⟩
  case ilt1 =>
    rintro pre F A ⟨rfl, h1, h2, h3, h4, mn, hl, h5, hcm⟩ k hk
    rcases hk with rfl | rfl | rfl | rfl | rfl
    · exact gr_in h1
    · exact gr_in h2
    · exact h5.lt
    · exact gr_in h3
    · exact h4.lt
  case f01 =>
    rintro k hk e
    rcases e with rfl | e
    · rcases hk with h | h | h | h | h <;> omega
    · obtain ⟨y1, y2, y3, y4, y5, -⟩ := HoE.out k e
      rcases hk with h | h | h | h | h <;> contradiction
  case s1 =>
    rintro k (rfl | e)
    · omega
    · have := (HoE.out k e).2.2.2.2.2; omega
  case i01 => exact HI0.out
  case assign1 =>
    intro l x W' K' hK'
    simp only [List.setIfInBounds_toArray, List.set_cons_succ, List.set_cons_zero] at hK' ⊢
    gi_wp2
    exact hK'
  case body1 =>
    rintro l pre ⟨xi, xv⟩ Fp A ⟨rfl, h1, h2, h3, h4, mn, hl, h5, hcm⟩ hpre
    rw [drop_pre hpre] at hcm
    simp only [List.map_cons] at hcm
    rw [mnRun, Option.bind_eq_some_iff] at hcm
    obtain ⟨mv, hmv, hcm⟩ := hcm
    split at hcm
    case isFalse => cases hcm
    case isTrue hnr =>
    rw [Option.bind_eq_some_iff] at hcm
    obtain ⟨u, hu, hcm⟩ := hcm
    obtain ⟨vn, rfl, hvl, hmve⟩ := rdI_some hmv
    obtain ⟨vn', hv', hvl', hue⟩ := rdI_some hu
    obtain rfl : vn = vn' := by omega
    rw [Int.toNat_natCast] at hcm
    have k0 : A.cell? ⟨bt, 0, none⟩ = some (.pointer (some ⟨tp, 0, none⟩)) := Lib.cell_of_heap h1 0
    have c2 : A.cell? ⟨mx, 0, none⟩ = some (.slice (some ⟨mb, 0, none⟩) n n) := Lib.cell_of_heap h2 0
    have c1 : A.cell? ⟨tp, 1, none⟩ = some (.slice (some ⟨ub, 0, none⟩) n n) := Lib.cell_of_heap h3 1
    have cm : A.cell? ⟨mb, vn, none⟩ = some (.int .i64 mv) := by rw [hmve]; exact h5.cell hvl
    have cmf := h5.fro vn
    have bv : vn < n := by omega
    have hw1 : IntKind.i64.wrap (mv + 1) = mv + 1 := by rw [IntKind.wrap_i64]; have := hnr.1; have := hnr.2; omega
    obtain ⟨B, hB⟩ : ∃ B, B = A.setCell ⟨mb, vn, none⟩ (.int .i64 (mv + 1)) := ⟨_, rfl⟩
    have hBk : ∀ k, k ≠ mb → B.heap[k]? = A.heap[k]? := fun k hk => by rw [hB]; exact Below.heap_setCell A ⟨mb, vn, none⟩ _ k hk
    have hB5 : IRow B mb (mn.set vn (mv + 1)) := by rw [hB]; exact h5.put vn (mv + 1)
    have hBz : B.heap.size = A.heap.size := by rw [hB]; simp [World.setCell]
    have d0 : B.cell? ⟨bt, 0, none⟩ = some (.pointer (some ⟨tp, 0, none⟩)) := (cell_same (hBk _ m1.symm)).trans k0
    have d1 : B.cell? ⟨tp, 1, none⟩ = some (.slice (some ⟨ub, 0, none⟩) n n) := (cell_same (hBk _ m3.symm)).trans c1
    have d2 : B.cell? ⟨mx, 0, none⟩ = some (.slice (some ⟨mb, 0, none⟩) n n) := (cell_same (hBk _ m2.symm)).trans c2
    have du : B.cell? ⟨ub, vn, none⟩ = some (.int .i64 u) := by rw [hue]; exact (h4.keep (hBk _ hmu.symm)).cell hvl'
    have e0 : (A.setCell ⟨mb, vn, none⟩ (.int .i64 (mv + 1))).cell? ⟨bt, 0, none⟩ = some (.pointer (some ⟨tp, 0, none⟩)) := by rw [← hB]; exact d0
    have e1 : (A.setCell ⟨mb, vn, none⟩ (.int .i64 (mv + 1))).cell? ⟨tp, 1, none⟩ = some (.slice (some ⟨ub, 0, none⟩) n n) := by rw [← hB]; exact d1
    have e2 : (A.setCell ⟨mb, vn, none⟩ (.int .i64 (mv + 1))).cell? ⟨mx, 0, none⟩ = some (.slice (some ⟨mb, 0, none⟩) n n) := by rw [← hB]; exact d2
    have eu : (A.setCell ⟨mb, vn, none⟩ (.int .i64 (mv + 1))).cell? ⟨ub, vn, none⟩ = some (.int .i64 u) := by rw [← hB]; exact du
    have hfin : ∀ (C : World) (mn' : List Int), C.heap.size = A.heap.size → C.os = A.os → C.tape = A.tape → C.output = A.output → (∀ k, k ≠ mb → C.heap[k]? = A.heap[k]?) → IRow C mb mn' → mn'.length = n → mnRun up (((backL order).drop (pre ++ [(xi, (vn : Int))]).length).map (·.2)) mn' = some many →
        ∃ F', RwI bt mx mb tp ub n [.slice A0 no c0, sl ub n, sl gk n, sl db n, .slice none 0 0, .slice none 0 0, l0, l1, l2] up many (backL order) (pre ++ [(xi, (vn : Int))]) F' C ∧ StepOn (RwF bt mx mb tp ub) F' A C := fun C mn' hz ho ht hp hk h5' hl' hr' =>
      ⟨_, ⟨rfl, (hk _ m1.symm).trans h1, (hk _ m2.symm).trans h2, (hk _ m3.symm).trans h3, h4.keep (hk _ hmu.symm), mn', hl', h5', hr'⟩, ⟨ho, ht, hp, by omega, fun k _ hn => hk k (fun e => hn (.inr (.inr (.inl e)))), fun k hk => .inl hk⟩⟩
    have Hfin := Lib.hid hfin
    have HB := Lib.hid hB
    have HBk := Lib.hid hBk
    have HB5 := Lib.hid hB5
    have Hlm := Lib.hid hl
    have Hcm := Lib.hid hcm
    have Ho : Hid (B.os = A.os ∧ B.tape = A.tape ∧ B.output = A.output) := Lib.hid (by rw [hB]; exact ⟨rfl, rfl, rfl⟩)
    simp only [List.setIfInBounds_toArray, List.set_cons_succ, List.set_cons_zero]
    clear h1 h2 h3 h4 h5 hcm hpre hmv hmve hu hv' hvl' hue hvl hfin hB hBk hB5 hl
    by_cases hu1 : u = -1
    · have h1c : (u != -1) = false := by simp [hu1]
      have hcm := Hcm.out
      rw [if_pos hu1] at hcm
      have hE := Lib.hid (Hfin.out B _ hBz Ho.out.1 Ho.out.2.1 Ho.out.2.2 HBk.out HB5.out (by simpa using Hlm.out) hcm)
      clear hcm hu1
      gi_wp2
      first | exact hE.out | (rw [← HB.out]; exact hE.out)
    · have h1c : (u != -1) = true := by simpa using hu1
      have hcm := Hcm.out
      rw [if_neg hu1, Option.bind_eq_some_iff] at hcm
      obtain ⟨mu, hmu2, hcm⟩ := hcm
      split at hcm
      case isFalse => cases hcm
      case isTrue hnr2 =>
      obtain ⟨un, rfl, hul2, hmue⟩ := rdI_some hmu2
      rw [Int.toNat_natCast] at hcm
      have hum : un < n := by have := Hlm.out; simp at hul2; omega
      obtain ⟨mb0, hmb0⟩ : ∃ mb0, mb0 = (mn.set vn (mv + 1)).getD vn 0 := ⟨_, rfl⟩
      rw [← hmb0] at hcm
      have hvl3 : vn < (mn.set vn (mv + 1)).length := by have := Hlm.out; simp; omega
      have hmb1 : mb0 = mv + 1 := by rw [hmb0]; simp [List.getD]; simp at hvl3; simp [hvl3]
      have x1 : B.cell? ⟨mb, un, none⟩ = some (.int .i64 mu) := by rw [hmue]; exact HB5.out.cell hul2
      have x2 : B.cell? ⟨mb, vn, none⟩ = some (.int .i64 mb0) := by rw [hmb0]; exact HB5.out.cell hvl3
      have xf := HB5.out.fro un
      have hw2 : IntKind.i64.wrap (mu + mb0) = mu + mb0 := by rw [IntKind.wrap_i64]; have := hnr2.1; have := hnr2.2; have := hnr.1; have := hnr.2; omega
      have hE := Lib.hid (Hfin.out (B.setCell ⟨mb, un, none⟩ (.int .i64 (mu + mb0))).drew _ (by simp [World.setCell, hBz]) Ho.out.1 Ho.out.2.1 Ho.out.2.2 (fun k hk => (Below.heap_setCell B ⟨mb, un, none⟩ _ k hk).trans (HBk.out k hk)) ((HB5.out.put un (mu + mb0)).keep rfl) (by simpa using Hlm.out) hcm)
      clear hcm hmu2 hnr2 hmue hmb0 hmb1 hvl3 hul2
      gi_wp2
      rw [← HB.out]
      clear e0 e1 e2 eu k0 c1 c2 cm cmf
      refine round_still_tail 9 (by kernel_rfl) (by kernel_rfl) (by kernel_rfl) ?_
      simp only [List.take_succ_cons, List.take_zero, List.drop_succ_cons, List.drop_zero]
      repeat still_step
      try refine wpStill_nil ?_
      change wpList _ _ _ _ _ B.drew
      go_wp2
      refine ⟨rfl, ?_⟩
      gi_wp2
      exact hE.out
  case done1 =>
    rintro D Fp W' ⟨rfl, h1, h2, h3, h4, mn, hl, h5, hcm⟩ hfr hD hDn hDF
    rw [List.drop_length] at hcm
    simp only [List.map_nil, mnRun, Option.some.injEq] at hcm
    subst hcm
    have hfz := hfr.size
    have hS8 := HSV.out.keep Hb8.out
    have hsm : ∀ j, j < w8.heap.size → j ≠ mb → W'.heap[j]? = w8.heap[j]? := fun j hj hne => by
      by_cases hF : RwF bt mx mb tp ub j
      · rcases hF with e | e | e | e | e
        · subst e; exact h1.trans (HFt.out.keep Hb8.out).at_.symm
        · subst e; exact h2.trans (HFm.out.keep Hb8.out).at_.symm
        · exact absurd e hne
        · subst e; exact h3.trans hS8.box.symm
        · subst e; exact Eq.trans h4 (hS8.whole Ha.out.2).symm
      · exact hfr.block j hj hF (fun e => e)
    have hS9 := hS8.after1 HF19.out (l' := mn) (by simp [hl]) (by simpa using hnb) hfz hsm h5
    have hnew : ∀ j, ((upG F1 9 (wholeR mb mn)) j).v.ownBlock = (F1 j).v.ownBlock := fun j => by
      by_cases e : j = 9
      · subst e; rw [upG_at, HF19.out]; rfl
      · rw [upG_off _ _ _ _ e]
    have hbase := HSV.out.hb
    have hmbb := ((HSV.out.fam.own 9).lt mb (by rw [HF19.out]; rfl)).1
    have hP9 : RwP base tp bt mx D mb n w F0 mn W' (upG F1 9 (wholeR mb mn)) [.slice A0 no c0, sl ub n, sl gk n, sl db n, .slice none 0 0, .slice none 0 0, l0, l1, l2] :=
      ⟨hS9, ⟨h1, fun k => by rw [hnew]; exact HFt.out.ne k, HFt.out.nE⟩, ⟨h2, fun k => by rw [hnew]; exact HFm.out.ne k, HFm.out.nE⟩, ⟨hD, fun k e => by rw [hnew] at e; have := ((hS8.fam.own k).lt _ e).2; omega, by omega⟩, upG_at _ _ _, fun i _ _ h9 => by rw [upG_off _ _ _ _ h9]; exact HF1o.out i h9,
        HBV.out.trans ⟨hfr.os.trans Hb8.out.os, hfr.tape.trans Hb8.out.tape, hfr.output.trans Hb8.out.output, by omega, fun k hk => (hsm k (by omega) (by omega)).trans (Hb8.out.block k (by omega))⟩⟩
    have hF94 : (upG F1 9 (wholeR mb mn)) 4 = noRow := by rw [upG_off _ _ _ _ (by omega)]; exact (HF1o.out 4 (by omega)).trans (Hoff.out 4 (by omega) (by omega))
    have hF95 : (upG F1 9 (wholeR mb mn)) 5 = noRow := by rw [upG_off _ _ _ _ (by omega)]; exact (HF1o.out 5 (by omega)).trans (Hoff.out 5 (by omega) (by omega))
    obtain ⟨F9, hF9⟩ : ∃ F9, F9 = upG F1 9 (wholeR mb mn) := ⟨_, rfl⟩
    rw [← hF9] at hP9 hF94 hF95
    have Hml := Lib.hid hl
    have HDb : Hid (base ≤ D) := Lib.hid (by omega)
    obtain ⟨Z, hZ, hbZ, hzZ, h0Z⟩ := gr_one W' #[.int .i64 (-1)] 3
    have hPZ := hP9.keep hbZ.drew
    have hRp := repeat_g W'.heap.size 0 (-1) n Z.drew (Lib.cell_of_heap h0Z 0) hn1 hnb
    have gd : W'.drew.cell? ⟨bt, 0, none⟩ = some (.pointer (some ⟨tp, 0, none⟩)) ∧ W'.drew.cell? ⟨tp, 1, none⟩ = some (.slice (some ⟨ub, 0, none⟩) n n) := ⟨Lib.cell_of_heap hP9.fb.at_ 0, hP9.sq.cell 1 _ rfl⟩
    have ga : Z.drew.cell? ⟨bt, 0, none⟩ = some (.pointer (some ⟨tp, 0, none⟩)) ∧ Z.drew.cell? ⟨tp, 1, none⟩ = some (.slice (some ⟨ub, 0, none⟩) n n) := ⟨Lib.cell_of_heap hPZ.fb.at_ 0, hPZ.sq.cell 1 _ rfl⟩
    rw [hZ] at ga hRp
    have HZ := Lib.hid (show Z.drew = (W'.alloc (.cells #[.int .i64 (-1)] 3)).drew by rw [hZ])
    have HRp := Lib.hid hRp
    have HPZ := Lib.hid hPZ
    have HF94 := Lib.hid hF94
    have HF95 := Lib.hid hF95
    clear h1 h2 h3 h4 h5 hl hfr hD hDF hS8 hsm hS9 hnew hP9 hF94 hF95 hF9 hZ hbZ hzZ h0Z hPZ hRp hbase hmbb Hseq HI0 HoE HSV HFt HFm
    go_upto_region 8 with fail
    refine wp_region_noPanic ?_
    refine wp_region_held_drew (S := fun w' => w'.cell? ⟨bt, 0, none⟩ = some (.pointer (some ⟨tp, 0, none⟩)) ∧ w'.cell? ⟨tp, 1, none⟩ = some (.slice (some ⟨ub, 0, none⟩) n n)) (by kernel_rfl) gd (fun hHeld => ?_)
    refine wpAnyH_take (i := 0) (v := ?_) rfl (by kernel_rfl) (by kernel_rfl) (by kernel_rfl) (fun _ _ _ h => h) (Or.inl ⟨by rfl, ?_⟩) (by assumption) ?_
    rotate_left
    · (intro w hSw; (try dsimp only at hSw); first | (go_simp; done) | (go_simp; with_reducible rfl))
    try simp only [Act.put, List.setIfInBounds_toArray, List.set_cons_zero, List.set_cons_succ]
    refine wpAnyH_take (i := 2) (v := ?_) rfl (by kernel_rfl) (by kernel_rfl) (by kernel_rfl) (fun _ _ _ h => h) (Or.inl ⟨by rfl, ?_⟩) (by assumption) ?_
    rotate_left
    · (intro w hSw; (try dsimp only at hSw); first | (go_simp; done) | (go_simp; with_reducible rfl))
    try simp only [Act.put, List.setIfInBounds_toArray, List.set_cons_zero, List.set_cons_succ]
    refine wpAnyH_take (i := 3) (v := ?_) rfl (by kernel_rfl) (by kernel_rfl) (by kernel_rfl) (fun _ _ _ h => h) (Or.inl ⟨by rfl, ?_⟩) (by assumption) ?_
    rotate_left
    · (intro w hSw; (try dsimp only at hSw); first | (go_simp; done) | (go_simp; with_reducible rfl))
    try simp only [Act.put, List.setIfInBounds_toArray, List.set_cons_zero, List.set_cons_succ]
    refine wpAnyH_take (i := 4) (v := ?_) rfl (by kernel_rfl) (by kernel_rfl) (by kernel_rfl) (fun _ _ _ h => h) (Or.inl ⟨by rfl, ?_⟩) (by assumption) ?_
    rotate_left
    · (intro w hSw; (try dsimp only at hSw); first | (go_simp; done) | (go_simp; with_reducible rfl))
    try simp only [Act.put, List.setIfInBounds_toArray, List.set_cons_zero, List.set_cons_succ]
    refine wpAnyH_take (i := 5) (v := ?_) rfl (by kernel_rfl) (by kernel_rfl) (by kernel_rfl) (fun _ _ _ h => h) (Or.inl ⟨by rfl, ?_⟩) (by assumption) ?_
    rotate_left
    · (intro w hSw; (try dsimp only at hSw); first | (go_simp; done) | (go_simp; with_reducible rfl))
    try simp only [Act.put, List.setIfInBounds_toArray, List.set_cons_zero, List.set_cons_succ]
    refine wpAnyH_take (i := 6) (v := ?_) rfl (by kernel_rfl) (by kernel_rfl) (by kernel_rfl) (fun _ _ _ h => h) (Or.inl ⟨by rfl, ?_⟩) (by assumption) ?_
    rotate_left
    · (intro w hSw; (try dsimp only at hSw); first | (go_simp; done) | (go_simp; with_reducible rfl))
    try simp only [Act.put, List.setIfInBounds_toArray, List.set_cons_zero, List.set_cons_succ]
    refine wpAnyH_ready (rs := [1]) (by kernel_rfl) (by simp) ?_
    refine AllReadyH.cons rfl (fun K hK => ?_) (AllReadyH.nil)
    go_simp
    refine hK.out _ _ ?_ (fun hHeld => ?_)
    · ((try dsimp only); first | with_reducible exact gd | with_reducible exact ga | with_reducible exact g5 | with_reducible exact g6)
    clear hK K
    try simp only [Act.put, List.setIfInBounds_toArray, List.set_cons_zero, List.set_cons_succ]
    refine wpAnyH_ready (rs := [7]) (by kernel_rfl) (by simp) ?_
    refine AllReadyH.cons rfl (fun K hK => ?_) (AllReadyH.nil)
    go_simp
    refine HRp.out.mono ?_
    rintro e w5 ⟨pb, rfl, hge, hrow, hb⟩
    rw [← HZ.out] at hge hb
    have hP5 := HPZ.out.row (k := 4) HF94.out (.inl rfl) hb hge hrow (by simpa using hnb)
    have g5 : w5.cell? ⟨bt, 0, none⟩ = some (.pointer (some ⟨tp, 0, none⟩)) ∧ w5.cell? ⟨tp, 1, none⟩ = some (.slice (some ⟨ub, 0, none⟩) n n) := ⟨Lib.cell_of_heap hP5.fb.at_ 0, hP5.sq.cell 1 _ rfl⟩
    have m4 : w5.cell? ⟨tp, 4, none⟩ = some (.slice none 0 0) := hP5.sq.cell 4 _ rfl
    have mf := hP5.sq.fro 4
    have hP6 := hP5.field 4 (.slice (some ⟨pb, 0, none⟩) n n)
    simp only [List.set_cons_succ, List.set_cons_zero] at hP6
    have g6 : (w5.setCell ⟨tp, 4, none⟩ (.slice (some ⟨pb, 0, none⟩) n n)).cell? ⟨bt, 0, none⟩ = some (.pointer (some ⟨tp, 0, none⟩)) ∧ (w5.setCell ⟨tp, 4, none⟩ (.slice (some ⟨pb, 0, none⟩) n n)).cell? ⟨tp, 1, none⟩ = some (.slice (some ⟨ub, 0, none⟩) n n) := ⟨Lib.cell_of_heap hP6.fb.at_ 0, hP6.sq.cell 1 _ rfl⟩
    have HP6 := Lib.hid hP6
    clear hge hrow hb hP5 hP6
    try dsimp only
    refine hK.out _ _ ?_ (fun hHeld => ?_)
    · ((try dsimp only); first | with_reducible exact gd | with_reducible exact ga | with_reducible exact g5 | with_reducible exact g6)
    clear hK K
    try simp only [Act.put, List.setIfInBounds_toArray, List.set_cons_zero, List.set_cons_succ]
    refine wpAnyH_take (i := 8) (v := ?_) rfl (by kernel_rfl) (by kernel_rfl) (by kernel_rfl) (fun _ _ _ h => h) (Or.inl ⟨by rfl, ?_⟩) (by assumption) ?_
    rotate_left
    · (intro w hSw; (try dsimp only at hSw); first | (go_simp; done) | (go_simp; with_reducible rfl))
    try simp only [Act.put, List.setIfInBounds_toArray, List.set_cons_zero, List.set_cons_succ]
    refine wpAnyH_take (i := 9) (v := ?_) rfl (by kernel_rfl) (by kernel_rfl) (by kernel_rfl) (fun _ _ _ h => h) (Or.inl ⟨by rfl, ?_⟩) (by assumption) ?_
    rotate_left
    · (intro w hSw; (try dsimp only at hSw); first | (go_simp; done) | (go_simp; with_reducible rfl))
    try simp only [Act.put, List.setIfInBounds_toArray, List.set_cons_zero, List.set_cons_succ]
    refine wpAnyH_ready (rs := [10]) (by kernel_rfl) (by simp) ?_
    refine AllReadyH.cons rfl (fun K hK => ?_) (AllReadyH.nil)
    go_simp
    refine hK.out _ _ ?_ (fun hHeld => ?_)
    · ((try dsimp only); first | with_reducible exact gd | with_reducible exact ga | with_reducible exact g5 | with_reducible exact g6)
    clear hK K
    try simp only [Act.put, List.setIfInBounds_toArray, List.set_cons_zero, List.set_cons_succ]
    refine wpAnyH_done (by kernel_rfl) ?_ _
    refine NoPanic.normal ?_
    obtain ⟨G, hG⟩ : ∃ G, G = w5.setCell ⟨tp, 4, none⟩ (.slice (some ⟨pb, 0, none⟩) n n) := ⟨_, rfl⟩
    rw [← hG] at HP6 ⊢
    clear hG gd ga g5 g6 m4 mf HPZ HRp HZ
    have hmk := makeZ n hnb
    have hP6 := HP6.out
    have gd : G.drew.cell? ⟨bt, 0, none⟩ = some (.pointer (some ⟨tp, 0, none⟩)) ∧ G.drew.cell? ⟨tp, 1, none⟩ = some (.slice (some ⟨ub, 0, none⟩) n n) := ⟨Lib.cell_of_heap hP6.fb.at_ 0, hP6.sq.cell 1 _ rfl⟩
    have hbk : Below G.heap.size G (G.alloc (.cells (intsV (List.replicate n 0)).toArray 3)).drew := ((Below.refl _ _).alloc (Nat.le_refl _) _).drew
    have e45 : (upG F9 4 (wholeR pb (List.replicate n (-1)))) 5 = noRow := by rw [upG_off _ _ _ _ (by omega)]; exact HF95.out
    have hP7 := hP6.row (k := 5) e45 (.inr rfl) hbk (Nat.le_refl _) (show IRow _ G.heap.size (List.replicate n 0) from heap_alloc_new G _) (by simpa using hnb)
    have ga : (G.alloc (.cells (intsV (List.replicate n 0)).toArray 3)).drew.cell? ⟨bt, 0, none⟩ = some (.pointer (some ⟨tp, 0, none⟩)) ∧ (G.alloc (.cells (intsV (List.replicate n 0)).toArray 3)).drew.cell? ⟨tp, 1, none⟩ = some (.slice (some ⟨ub, 0, none⟩) n n) := ⟨Lib.cell_of_heap hP7.fb.at_ 0, hP7.sq.cell 1 _ rfl⟩
    have m5 : (G.alloc (.cells (intsV (List.replicate n 0)).toArray 3)).drew.cell? ⟨tp, 5, none⟩ = some (.slice none 0 0) := hP7.sq.cell 5 _ rfl
    have m5f : (G.alloc (.cells (intsV (List.replicate n 0)).toArray 3)).drew.frozen? ⟨tp, 5, none⟩ = false := hP7.sq.fro 5
    have hP8 := hP7.field 5 (.slice (some ⟨G.heap.size, 0, none⟩) n n)
    simp only [List.set_cons_succ, List.set_cons_zero] at hP8
    obtain ⟨K8, hK8⟩ : ∃ K8, K8 = ((G.alloc (.cells (intsV (List.replicate n 0)).toArray 3)).setCell ⟨tp, 5, none⟩ (.slice (some ⟨G.heap.size, 0, none⟩) n n)).drew := ⟨_, rfl⟩
    have hP8' : RwP base tp bt mx D mb n w F0 mn K8 (upG (upG F9 4 (wholeR pb (List.replicate n (-1)))) 5 (wholeR G.heap.size (List.replicate n 0))) [.slice A0 no c0, sl ub n, sl gk n, sl db n, .slice (some ⟨pb, 0, none⟩) n n, .slice (some ⟨G.heap.size, 0, none⟩) n n, l0, l1, l2] := by rw [hK8]; exact hP8
    have g8 : K8.cell? ⟨bt, 0, none⟩ = some (.pointer (some ⟨tp, 0, none⟩)) ∧ K8.cell? ⟨tp, 1, none⟩ = some (.slice (some ⟨ub, 0, none⟩) n n) := ⟨Lib.cell_of_heap hP8'.fb.at_ 0, hP8'.sq.cell 1 _ rfl⟩
    have HP8 := Lib.hid hP8'
    rw [hK8] at g8
    have HK8 := Lib.hid hK8
    clear hP6 hbk e45 hP7 hP8 hP8' hK8 HP6
    go_upto_region 9 with fail
    refine wp_region_noPanic ?_
    refine wp_region_held_drew (S := fun w' => w'.cell? ⟨bt, 0, none⟩ = some (.pointer (some ⟨tp, 0, none⟩)) ∧ w'.cell? ⟨tp, 1, none⟩ = some (.slice (some ⟨ub, 0, none⟩) n n)) (by kernel_rfl) gd (fun hHeld => ?_)
    refine wpAnyH_take (i := 0) (v := ?_) rfl (by kernel_rfl) (by kernel_rfl) (by kernel_rfl) (fun _ _ _ h => h) (Or.inl ⟨by rfl, ?_⟩) (by assumption) ?_
    rotate_left
    · (intro w hSw; (try dsimp only at hSw); first | (go_simp; done) | (go_simp; with_reducible rfl))
    try simp only [Act.put, List.setIfInBounds_toArray, List.set_cons_zero, List.set_cons_succ]
    refine wpAnyH_take (i := 1) (v := ?_) rfl (by kernel_rfl) (by kernel_rfl) (by kernel_rfl) (fun _ _ _ h => h) (Or.inl ⟨by rfl, ?_⟩) (by assumption) ?_
    rotate_left
    · (intro w hSw; (try dsimp only at hSw); first | (go_simp; done) | (go_simp; with_reducible rfl))
    try simp only [Act.put, List.setIfInBounds_toArray, List.set_cons_zero, List.set_cons_succ]
    refine wpAnyH_take (i := 2) (v := ?_) rfl (by kernel_rfl) (by kernel_rfl) (by kernel_rfl) (fun _ _ _ h => h) (Or.inl ⟨by rfl, ?_⟩) (by assumption) ?_
    rotate_left
    · (intro w hSw; (try dsimp only at hSw); first | (go_simp; done) | (go_simp; with_reducible rfl))
    try simp only [Act.put, List.setIfInBounds_toArray, List.set_cons_zero, List.set_cons_succ]
    refine wpAnyH_take (i := 3) (v := ?_) rfl (by kernel_rfl) (by kernel_rfl) (by kernel_rfl) (fun _ _ _ h => h) (Or.inl ⟨by rfl, ?_⟩) (by assumption) ?_
    rotate_left
    · (intro w hSw; (try dsimp only at hSw); first | (go_simp; done) | (go_simp; with_reducible rfl))
    try simp only [Act.put, List.setIfInBounds_toArray, List.set_cons_zero, List.set_cons_succ]
    refine wpAnyH_take (i := 4) (v := ?_) rfl (by kernel_rfl) (by kernel_rfl) (by kernel_rfl) (fun _ _ _ h => h) (Or.inl ⟨by rfl, ?_⟩) (by assumption) ?_
    rotate_left
    · (intro w hSw; (try dsimp only at hSw); first | (go_simp; done) | (go_simp; with_reducible rfl))
    try simp only [Act.put, List.setIfInBounds_toArray, List.set_cons_zero, List.set_cons_succ]
    refine wpAnyH_take (i := 5) (v := ?_) rfl (by kernel_rfl) (by kernel_rfl) (by kernel_rfl) (fun _ _ _ h => h) (Or.inl ⟨by rfl, ?_⟩) (by assumption) ?_
    rotate_left
    · (intro w hSw; (try dsimp only at hSw); first | (go_simp; done) | (go_simp; with_reducible rfl))
    try simp only [Act.put, List.setIfInBounds_toArray, List.set_cons_zero, List.set_cons_succ]
    refine wpAnyH_ready (rs := [6]) (by kernel_rfl) (by simp) ?_
    refine AllReadyH.cons rfl (fun K hK => ?_) (AllReadyH.nil)
    go_simp
    refine hK.out _ _ ?_ (fun hHeld => ?_)
    · ((try dsimp only); first | with_reducible exact gd | with_reducible exact ga | with_reducible exact g8)
    clear hK K
    try simp only [Act.put, List.setIfInBounds_toArray, List.set_cons_zero, List.set_cons_succ]
    refine wpAnyH_take (i := 7) (v := ?_) rfl (by kernel_rfl) (by kernel_rfl) (by kernel_rfl) (fun _ _ _ h => h) (Or.inl ⟨by rfl, ?_⟩) (by assumption) ?_
    rotate_left
    · (intro w hSw; (try dsimp only at hSw); first | (go_simp; done) | (go_simp; with_reducible rfl))
    try simp only [Act.put, List.setIfInBounds_toArray, List.set_cons_zero, List.set_cons_succ]
    refine wpAnyH_take (i := 8) (v := ?_) rfl (by kernel_rfl) (by kernel_rfl) (by kernel_rfl) (fun _ _ _ h => h) (Or.inl ⟨by rfl, ?_⟩) (by assumption) ?_
    rotate_left
    · (intro w hSw; (try dsimp only at hSw); first | (go_simp; done) | (go_simp; with_reducible rfl))
    try simp only [Act.put, List.setIfInBounds_toArray, List.set_cons_zero, List.set_cons_succ]
    refine wpAnyH_ready (rs := [9]) (by kernel_rfl) (by simp) ?_
    refine AllReadyH.cons rfl (fun K hK => ?_) (AllReadyH.nil)
    go_simp
    refine hK.out _ _ ?_ (fun hHeld => ?_)
    · ((try dsimp only); first | with_reducible exact gd | with_reducible exact ga | with_reducible exact g8)
    clear hK K
    try simp only [Act.put, List.setIfInBounds_toArray, List.set_cons_zero, List.set_cons_succ]
    refine wpAnyH_done (by kernel_rfl) ?_ _
    refine NoPanic.normal ?_
    rw [← HK8.out]
    obtain ⟨qb, hqb⟩ : ∃ qb, qb = G.heap.size := ⟨_, rfl⟩
    rw [← hqb] at HP8
    clear HK8 gd ga g8 m5 m5f hmk hqb
    have k0 : K8.cell? ⟨bt, 0, none⟩ = some (.pointer (some ⟨tp, 0, none⟩)) := Lib.cell_of_heap HP8.out.fb.at_ 0
    have t0 : K8.cell? ⟨tp, 0, none⟩ = some (.slice A0 no c0) := HP8.out.sq.cell 0 _ rfl
    have HI0 : Hid (∃ F, RwP base tp bt mx D mb n w F0 mn K8 F [.slice A0 no c0, sl ub n, sl gk n, sl db n, .slice (some ⟨pb, 0, none⟩) n n, .slice (some ⟨qb, 0, none⟩) n n, l0, l1, l2] ∧ F 4 = wholeR pb (List.replicate n (-1)) ∧ F 5 = wholeR qb (List.replicate n 0)) := Lib.hid ⟨_, HP8.out, by rw [upG_off _ _ _ _ (by omega), upG_at], upG_at _ _ _⟩
    have HG0 : Hid (plRun up mn (order.drop 0) (List.replicate n (-1)) (List.replicate n 0) = some (place, past)) := Lib.hid Hpl.out
    clear HP8 Hpl Hmn
    go_upto_block 2 with fail
    clear k0 t0
    go_wp2_with fail
    go_loopw [71] (fun u71 wr => ∃ (j : Nat) (pl pa : List Int), j ≤ no ∧ u71 = .int .i64 j ∧ Hid (∃ F, RwP base tp bt mx D mb n w F0 mn wr F [.slice A0 no c0, sl ub n, sl gk n, sl db n, .slice (some ⟨pb, 0, none⟩) n n, .slice (some ⟨qb, 0, none⟩) n n, l0, l1, l2] ∧ F 4 = wholeR pb pl ∧ F 5 = wholeR qb pa) ∧ Hid (pl.length = n ∧ pa.length = n) ∧ Hid (plRun up mn (order.drop j) pl pa = some (place, past))) (fun u71 _ => no - (intOf u71).toNat)
    case atStart => exact ⟨0, _, _, Nat.zero_le _, rfl, HI0, Lib.hid (by simp), HG0⟩
    case round =>
      clear HI0 HG0
      obtain ⟨j, pl, pa, hj, rfl, HI, HL, HG⟩ := hrel
      by_cases hlt : j < no
      · obtain ⟨F, hP, f4, f5⟩ := HI.out
        have hG := HG.out
        have hjl : j < order.length := by rw [Hno.out]; exact hlt
        have f0 : F 0 = intR (.slice A0 no c0) order := (hP.fo 0 (by omega) (by omega) (by omega)).trans HF0.out
        have f1 : F 1 = wholeR ub up := (hP.fo 1 (by omega) (by omega) (by omega)).trans HF1.out
        rw [List.drop_eq_getElem_cons hjl, plRun, Option.bind_eq_some_iff] at hG
        obtain ⟨x0, hx0, hG⟩ := hG
        rw [Option.bind_eq_some_iff] at hG
        obtain ⟨u, hu, hG⟩ := hG
        obtain ⟨go, rfl, co⟩ := hP.sq.read f0 hjl
        obtain ⟨bv, hbv⟩ : ∃ bv, bv = order[j] := ⟨_, rfl⟩
        rw [← hbv] at hx0 hu hG co
        obtain ⟨bn, rfl, hbl, -⟩ := rdI_some hx0
        obtain ⟨bn', hbn', hbul, hue⟩ := rdI_some hu
        obtain rfl : bn = bn' := by omega
        rw [Int.toNat_natCast] at hG
        have hbm : bn < n := by have := HL.out.1; omega
        have k0 : wr.cell? ⟨bt, 0, none⟩ = some (.pointer (some ⟨tp, 0, none⟩)) := Lib.cell_of_heap hP.fb.at_ 0
        have k4 : wr.cell? ⟨tp, 4, none⟩ = some (.slice (some ⟨pb, 0, none⟩) n n) := hP.sq.cell 4 _ rfl
        have kp : wr.cell? ⟨pb, bn, none⟩ = some (.int .i64 (pl.getD bn 0)) := (hP.sq.whole f4).cell hbl
        have kpf := (hP.sq.whole f4).fro bn
        have hP2 := hP.set f4 (.inl rfl) bn 0
        have hg4 : (upG F 4 (wholeR pb (pl.set bn 0))) 4 = wholeR pb (pl.set bn 0) := upG_at _ _ _
        have hg5 : (upG F 4 (wholeR pb (pl.set bn 0))) 5 = wholeR qb pa := by rw [upG_off _ _ _ _ (by omega)]; exact f5
        have hg1 : (upG F 4 (wholeR pb (pl.set bn 0))) 1 = wholeR ub up := by rw [upG_off _ _ _ _ (by omega)]; exact f1
        obtain ⟨A, hA⟩ : ∃ A, A = wr.setCell ⟨pb, bn, none⟩ (.int .i64 0) := ⟨_, rfl⟩
        rw [← hA] at hP2
        have a0 : A.cell? ⟨bt, 0, none⟩ = some (.pointer (some ⟨tp, 0, none⟩)) := Lib.cell_of_heap hP2.fb.at_ 0
        have a1 : A.cell? ⟨tp, 1, none⟩ = some (.slice (some ⟨ub, 0, none⟩) n n) := hP2.sq.cell 1 _ rfl
        have au : A.cell? ⟨ub, bn, none⟩ = some (.int .i64 u) := by rw [hue]; exact (hP2.sq.whole hg1).cell hbul
        have HP2 := Lib.hid hP2
        have Hg4 := Lib.hid hg4
        have Hg5 := Lib.hid hg5
        have HA := Lib.hid hA
        have hbl2 : bn < pl.length := hbl
        clear hP f4 f5 f0 f1 hx0 hu hbv hbl hbn' hbul hue hP2 hg4 hg5 hg1 hA HI HG hjl
        go_upto_region 13 with fail
        clear co
        go_upto_region 14 with fail
        rw [← HA.out]
        clear k0 k4 kp kpf HA
        by_cases h1 : u = -1
        · have h1c : (u != -1) = false := by simp [h1]
          rw [if_pos h1] at hG
          have HGN := Lib.hid hG
          have HLN : Hid ((pl.set bn 0).length = n ∧ (pa.set bn 1).length = n) := Lib.hid (by simpa using HL.out)
          have HL3 : Hid (pa.length = n) := Lib.hid HL.out.2
          clear hG h1
          go_upto_region 18 with fail
          clear a0 a1 au
          obtain ⟨B, hB⟩ : ∃ B, B = A := ⟨_, rfl⟩
          subst hB
          have HP3 := HP2
          have HG4 := Hg4
          have HG5 := Hg5
          have hP3 := HP3.out
          have k0 : B.cell? ⟨bt, 0, none⟩ = some (.pointer (some ⟨tp, 0, none⟩)) := Lib.cell_of_heap hP3.fb.at_ 0
          have k4 : B.cell? ⟨tp, 4, none⟩ = some (.slice (some ⟨pb, 0, none⟩) n n) := hP3.sq.cell 4 _ rfl
          have k5 : B.cell? ⟨tp, 5, none⟩ = some (.slice (some ⟨qb, 0, none⟩) n n) := hP3.sq.cell 5 _ rfl
          have kp : B.cell? ⟨pb, bn, none⟩ = some (.int .i64 0) := by have := (hP3.sq.whole HG4.out).cell (j := bn) (by simpa using hbl2); rw [this]; simp [List.getD, hbl2]
          have kq : ∃ v, B.cell? ⟨qb, bn, none⟩ = some v := ⟨_, (hP3.sq.whole HG5.out).cell (by have := HL3.out; simp at this ⊢; omega)⟩
          obtain ⟨vkq, kq⟩ := kq
          have kqf := (hP3.sq.whole HG5.out).fro bn
          have hP4 := (hP3.set HG5.out (.inr rfl) bn (0 + 1)).keep (Below.refl _ _).drew
          have hw3 : IntKind.i64.wrap (0 + 1) = 0 + 1 := by rw [IntKind.wrap_i64]; omega
          have HN : Hid (∃ F, RwP base tp bt mx D mb n w F0 mn (B.setCell ⟨qb, bn, none⟩ (.int .i64 (0 + 1))).drew F [.slice (some ⟨go, 0, none⟩) no c0, sl ub n, sl gk n, sl db n, .slice (some ⟨pb, 0, none⟩) n n, .slice (some ⟨qb, 0, none⟩) n n, l0, l1, l2] ∧ F 4 = wholeR pb _ ∧ F 5 = wholeR qb _) := Lib.hid ⟨_, hP4, by rw [upG_off _ _ _ _ (by omega)]; exact HG4.out, upG_at _ _ _⟩
          clear hP3 hP4
          go_upto_region 18 with fail
          go_still_tail 13, (by kernel_rfl)
          change wpList _ _ _ _ _ B.drew
          go_wp2
          go_roundw
          case rel => exact ⟨j + 1, _, _, by omega, by go_num, HN, HLN, HGN⟩
          case measure => simp [intOf]; omega
        · have h1c : (u != -1) = true := by simpa using h1
          rw [if_neg h1, Option.bind_eq_some_iff] at hG
          obtain ⟨pu, hpu, hG⟩ := hG
          rw [Option.bind_eq_some_iff] at hG
          obtain ⟨mv, hmv, hG⟩ := hG
          split at hG
          case isFalse => cases hG
          case isTrue hnr =>
          obtain ⟨un, rfl, hupl, hpue⟩ := rdI_some hpu
          rw [Int.toNat_natCast] at hG
          obtain ⟨bn', hbn', hbml, hmve⟩ := rdI_some hmv
          obtain rfl : bn = bn' := by omega
          have hun : un < n := by have := HL.out.2; omega
          have HGN := Lib.hid hG
          have Hpu := Lib.hid (And.intro hpue (And.intro hupl (And.intro hmve hbml)))
          have hnr1 := hnr.1.1
          have hnr2 := hnr.1.2
          have hnr3 := hnr.2.1
          have hnr4 := hnr.2.2
          clear hG h1 hpu hmv hnr hbn' hpue hmve
          go_upto_region 16 with fail
          clear a0 a1 au
          have hP2 := HP2.out
          have a0 : A.cell? ⟨bt, 0, none⟩ = some (.pointer (some ⟨tp, 0, none⟩)) := Lib.cell_of_heap hP2.fb.at_ 0
          have a4 : A.cell? ⟨tp, 4, none⟩ = some (.slice (some ⟨pb, 0, none⟩) n n) := hP2.sq.cell 4 _ rfl
          have a5 : A.cell? ⟨tp, 5, none⟩ = some (.slice (some ⟨qb, 0, none⟩) n n) := hP2.sq.cell 5 _ rfl
          have aq : A.cell? ⟨qb, un, none⟩ = some (.int .i64 pu) := by rw [Hpu.out.1]; exact (hP2.sq.whole Hg5.out).cell Hpu.out.2.1
          have ap : ∃ v, A.cell? ⟨pb, bn, none⟩ = some v := ⟨_, (hP2.sq.whole Hg4.out).cell (by simpa using hbl2)⟩
          obtain ⟨vap, ap⟩ := ap
          have apf := (hP2.sq.whole Hg4.out).fro bn
          have hP3 := (hP2.set Hg4.out (.inl rfl) bn pu).keep (Below.refl _ _).drew
          obtain ⟨A2, hA2⟩ : ∃ A2, A2 = (A.setCell ⟨pb, bn, none⟩ (.int .i64 pu)).drew := ⟨_, rfl⟩
          rw [← hA2] at hP3
          obtain ⟨F3, hF3⟩ : ∃ F3, F3 = upG (upG F 4 (wholeR pb (pl.set bn 0))) 4 (wholeR pb ((pl.set bn 0).set bn pu)) := ⟨_, rfl⟩
          have hg4 : F3 4 = wholeR pb ((pl.set bn 0).set bn pu) := by rw [hF3]; exact upG_at _ _ _
          have hg5 : F3 5 = wholeR qb pa := by rw [hF3, upG_off _ _ _ _ (by omega)]; exact Hg5.out
          rw [← hF3] at hP3
          have HA2 := Lib.hid hA2
          have HP3a := Lib.hid hP3
          have Hg4a := Lib.hid hg4
          have Hg5a := Lib.hid hg5
          clear hP2 hP3 hA2 hF3 hg4 hg5 HP2 Hg4 Hg5
          go_still_tail 12, (by kernel_rfl)
          change wpList _ _ _ _ _ A.drew
          go_upto_region 17 with fail
          first | rw [← HA2.out] | skip
          clear a0 a4 a5 aq ap apf HA2
          have hP2 := HP3a.out
          have a0 : A2.cell? ⟨bt, 0, none⟩ = some (.pointer (some ⟨tp, 0, none⟩)) := Lib.cell_of_heap hP2.fb.at_ 0
          have a5 : A2.cell? ⟨tp, 5, none⟩ = some (.slice (some ⟨qb, 0, none⟩) n n) := hP2.sq.cell 5 _ rfl
          have am : A2.cell? ⟨mx, 0, none⟩ = some (.slice (some ⟨mb, 0, none⟩) n n) := Lib.cell_of_heap hP2.fm.at_ 0
          have aq : A2.cell? ⟨qb, un, none⟩ = some (.int .i64 pu) := by rw [Hpu.out.1]; exact (hP2.sq.whole Hg5a.out).cell Hpu.out.2.1
          have ab : A2.cell? ⟨mb, bn, none⟩ = some (.int .i64 mv) := by rw [Hpu.out.2.2.1]; exact (hP2.sq.whole hP2.f9).cell Hpu.out.2.2.2
          have aqf := (hP2.sq.whole Hg5a.out).fro un
          have hw2 : IntKind.i64.wrap (pu + mv) = pu + mv := by rw [IntKind.wrap_i64]; omega
          have hP3 := (hP2.set Hg5a.out (.inr rfl) un (pu + mv)).keep (Below.refl _ _).drew
          obtain ⟨B, hB⟩ : ∃ B, B = (A2.setCell ⟨qb, un, none⟩ (.int .i64 (pu + mv))).drew := ⟨_, rfl⟩
          rw [← hB] at hP3
          have hg4 : (upG F3 5 (wholeR qb (pa.set un (pu + mv)))) 4 = wholeR pb ((pl.set bn 0).set bn pu) := by rw [upG_off _ _ _ _ (by omega)]; exact Hg4a.out
          have HB := Lib.hid hB
          have HP3 := Lib.hid hP3
          have HG4 := Lib.hid hg4
          have HG5 : Hid ((upG F3 5 (wholeR qb (pa.set un (pu + mv)))) 5 = wholeR qb (pa.set un (pu + mv))) := Lib.hid (upG_at _ _ _)
          have HLN : Hid (((pl.set bn 0).set bn pu).length = n ∧ ((pa.set un (pu + mv)).set bn (pu + 1)).length = n) := Lib.hid (by simpa using HL.out)
          have HL3 : Hid ((pa.set un (pu + mv)).length = n) := Lib.hid (by simpa using HL.out.2)
          clear hP2 hP3 hB hg4 HP3a Hg4a Hg5a
          go_still_tail 12, (by kernel_rfl)
          change wpList _ _ _ _ _ A2.drew
          go_upto_region 18 with fail
          first | rw [← HB.out] | skip
          clear a0 a5 am aq ab aqf HB
          have hP3 := HP3.out
          have k0 : B.cell? ⟨bt, 0, none⟩ = some (.pointer (some ⟨tp, 0, none⟩)) := Lib.cell_of_heap hP3.fb.at_ 0
          have k4 : B.cell? ⟨tp, 4, none⟩ = some (.slice (some ⟨pb, 0, none⟩) n n) := hP3.sq.cell 4 _ rfl
          have k5 : B.cell? ⟨tp, 5, none⟩ = some (.slice (some ⟨qb, 0, none⟩) n n) := hP3.sq.cell 5 _ rfl
          have kp : B.cell? ⟨pb, bn, none⟩ = some (.int .i64 pu) := by have := (hP3.sq.whole HG4.out).cell (j := bn) (by simpa using hbl2); rw [this]; simp [List.getD, hbl2]
          have kq : ∃ v, B.cell? ⟨qb, bn, none⟩ = some v := ⟨_, (hP3.sq.whole HG5.out).cell (by have := HL3.out; simp at this ⊢; omega)⟩
          obtain ⟨vkq, kq⟩ := kq
          have kqf := (hP3.sq.whole HG5.out).fro bn
          have hP4 := (hP3.set HG5.out (.inr rfl) bn (pu + 1)).keep (Below.refl _ _).drew
          have hw3 : IntKind.i64.wrap (pu + 1) = pu + 1 := by rw [IntKind.wrap_i64]; omega
          have HN : Hid (∃ F, RwP base tp bt mx D mb n w F0 mn (B.setCell ⟨qb, bn, none⟩ (.int .i64 (pu + 1))).drew F [.slice (some ⟨go, 0, none⟩) no c0, sl ub n, sl gk n, sl db n, .slice (some ⟨pb, 0, none⟩) n n, .slice (some ⟨qb, 0, none⟩) n n, l0, l1, l2] ∧ F 4 = wholeR pb _ ∧ F 5 = wholeR qb _) := Lib.hid ⟨_, hP4, by rw [upG_off _ _ _ _ (by omega)]; exact HG4.out, upG_at _ _ _⟩
          clear hP3 hP4
          go_upto_region 18 with fail
          go_still_tail 13, (by kernel_rfl)
          change wpList _ _ _ _ _ B.drew
          go_wp2
          go_roundw
          case rel => exact ⟨j + 1, _, _, by omega, by go_num, HN, HLN, HGN⟩
          case measure => simp [intOf]; omega
      · obtain rfl : j = no := by omega
        have hG := HG.out
        rw [← Hno.out, List.drop_length, plRun] at hG
        injection hG with hG
        obtain ⟨rfl, rfl⟩ : pl = place ∧ pa = past := by simpa using hG
        obtain ⟨F, hP, f4, f5⟩ := HI.out
        have hP2 := hP
        have hdr := hP.sq.grown 9 (World.grownBy.refl _ _) noRow (World.ownsRow_nil _ _ _ _) (fun g e => by simp [noRow, Value.ownBlock] at e)
        have hDn : ∀ k g, (F k).v.ownBlock = some g → g ≠ D := fun k g hg e => hP.fd.ne k (by rw [hg, e])
        have hsq : Sq 194 (wr.putObj D (.deferred none)) base tp (upG F 9 noRow) _ := ⟨⟨by simpa using hdr.fam.el, hdr.fam.av, fun k => by
          refine own_same (hdr.fam.own k) (fun g hg => World.putObj_heap_other (fun e => ?_))
          by_cases e9 : k = 9
          · subst e9; rw [upG_at] at hg; simp [noRow, Value.ownBlock] at hg
          · rw [upG_off _ _ _ _ e9] at hg; exact hDn k g hg e, hdr.fam.ne⟩, (World.putObj_heap_other (fun e => hP.fd.nE e.symm)).trans hdr.box, hdr.bE, by simpa using hdr.hb⟩
        have hbel : Below base w (wr.putObj D (.deferred none)) := hP.bw.trans ⟨rfl, rfl, rfl, by simp, fun k hk => World.putObj_heap_other (by have := HDb.out; omega)⟩
        have Hsq := Lib.hid hsq
        have Hbel := Lib.hid hbel
        have HD := Lib.hid hP.fd.at_
        have Hff := Lib.hid (And.intro (fun i (h4 : i ≠ 4) (h5 : i ≠ 5) => (show (upG F 9 noRow) i = F0 i from by
          by_cases e9 : i = 9
          · subst e9; rw [upG_at]; exact (Hoff.out 9 (by omega) (by omega)).symm
          · rw [upG_off _ _ _ _ e9]; exact hP.fo i h4 h5 e9)) (And.intro (show (upG F 9 noRow) 4 = wholeR pb pl from by rw [upG_off _ _ _ _ (by omega)]; exact f4) (show (upG F 9 noRow) 5 = wholeR qb pa from by rw [upG_off _ _ _ _ (by omega)]; exact f5)))
        clear hP hP2 f4 f5 hdr hDn hsq hbel hG HI HG
        go_wp2
        refine ⟨by simp, .inl ⟨D, _, rfl, run_takeDeferred HD.out, ?_⟩⟩
        exact ⟨_, results_none rfl _ _ _, rfl, pb, qb, _, Hsq.out, Hff.out.1, Hff.out.2.1, Hff.out.2.2, HL.out.1, HL.out.2, Hbel.out⟩
end Go.Proofs.Ytagagpappjkgbaa
