/-
  graph.Reach.
-/
import Derived.Test.YtidhelpibofbiaaGrU
namespace Go.Proofs.Ytidhelpibofbiaa
open Go.RowKit Go.Shelf
set_option linter.unusedVariables false
set_option linter.unusedSimpArgs false

attribute [local go_sem] Oper.semAt_some

/-- The same, where the loop's variable is slot q. -/
theorem wp_range_sep_at {P : Program} {α : Type} {g : Operand} {p q : Tmp} {assign body : Code} {Q : Exit → Act → World → Prop} {a : Act} {w : World} {gf : Nat} {lb : Array Value}
    (hg : a.eval g = .func (.func gf) #[] lb) (eg : ∀ args w, (callFunc gf args).run P w = .ok (.enter gf args) w)
    {enc : α → Value} {xs : List α} {S Wr : Nat → Prop} {Post : World → Prop} (hseq : ∀ W1, Below w.heap.size w W1 → SepGives P gf lb enc xs S Wr Post W1)
    (hPost : ∀ A B : World, Post A → A.heap.size ≤ B.heap.size → (∀ k, k < w.heap.size → B.heap[k]? = A.heap[k]?) → Post B)
    (I : List α → (Nat → Prop) → World → Prop) (F0 : Nat → Prop)
    (hIoff : ∀ pre F A B, I pre F A → StepOff F A B → I pre F B) (hIlt : ∀ pre F A, I pre F A → ∀ k, F k → k < A.heap.size)
    (hF0 : ∀ k, F0 k → ¬ S k) (hS : ∀ k, S k → k < w.heap.size) (h0 : I [] F0 w)
    (hassign : ∀ (l : Nat) (x : α) (W : World) (K : Act → World → Prop), K { tmps := (a.tmps.setIfInBounds p (enc x)).setIfInBounds q (enc x), defers := [] } W →
      assign.wpIn (Fence.wide.inRound l) 0 P (Exit.then K (fun _ _ _ => False)) { tmps := a.tmps.setIfInBounds p (enc x), defers := [] } W)
    (hbody : ∀ (l : Nat) (pre : List α) (x : α) (F : Nat → Prop) (A : World), I pre F A → (pre ++ [x]) <+: xs → body.wpIn (Fence.wide.inRound l) 0 P (fun e a' B => e = .normal ∧ ∃ F', I (pre ++ [x]) F' B ∧ StepOn F F' A B) { tmps := (a.tmps.setIfInBounds p (enc x)).setIfInBounds q (enc x), defers := [] } A)
    (hdone : ∀ (D : Nat) (F' : Nat → Prop) (W' : World), I xs F' W' → Post W' → Framed F0 F' Wr w W' → W'.heap[D]? = some (.deferred (some [])) → w.heap.size ≤ D → ¬ F' D → Q .normal { a with defers := { target := .collected D, args := #[] } :: a.defers } W') :
    (Code.rangeFunc g #[p] assign body).wp P Q a w :=
  wp_range_sep hg eg hseq rfl hPost I F0 hIoff hIlt hF0 hS h0 (fun x => { tmps := (a.tmps.setIfInBounds p (enc x)).setIfInBounds q (enc x), defers := [] }) (fun l x W K hK => by
    have := hassign l x W K hK
    simpa using this) hbody hdone
theorem own_full {w : World} {base : Nat} {T : TypeId} {g n : Nat} {xs : List Value} (h : w.ownsRow base T 1 (.slice (some ⟨g, 0, none⟩) n n) n xs) : w.heap[g]? = some (.cells xs.toArray T (0, 0)) := by
  rcases h.2 with ⟨h', _⟩ | ⟨g', cap, cur, h', hb, hg, hnc, hcm, hcs, ht⟩
  · simp at h'
  · simp only [Value.slice.injEq, Option.some.injEq, Addr.mk.injEq, and_true, true_and] at h'
    obtain ⟨rfl, rfl⟩ := h'
    rw [hg, ← ht, Nat.mul_one, List.take_of_length_le (by rw [Array.length_toList, hcs]; omega)]
theorem full_own {w : World} {base : Nat} {T : TypeId} {g n : Nat} {xs : List Value} (h : w.heap[g]? = some (.cells xs.toArray T (0, 0))) (hl : xs.length = n) (hb : base ≤ g) (hm : n ≤ maxLen) : w.ownsRow base T 1 (.slice (some ⟨g, 0, none⟩) n n) n xs :=
  ⟨by omega, .inr ⟨g, n, xs.toArray, rfl, hb, h, Nat.le_refl _, hm, by simp; omega, by rw [Nat.mul_one]; simp; rw [← hl, List.take_length]⟩⟩
def markP (l : List Bool) (xs : List Nat) : List Bool := xs.foldl (fun s b => s.set b true) l
theorem markP_len : ∀ (xs : List Nat) (l : List Bool), (markP l xs).length = l.length
  | [], _ => rfl
  | x :: xs, l => by unfold markP; rw [List.foldl_cons]; have := markP_len xs (l.set x true); unfold markP at this; rw [this]; simp
theorem markP_snoc (l : List Bool) (xs : List Nat) (b : Nat) : markP l (xs ++ [b]) = (markP l xs).set b true := by simp [markP]
/-- The ways back of a function by Preds. -/
def bkG (g : List GB) (b : Nat) : List Int := ((g[b]?.map GB.preds).getD []).filter (hasG g.length)
theorem bkG_in (g : List GB) : ∀ b, b < g.length → ∀ x ∈ bkG g b, 0 ≤ x ∧ x < g.length := fun b _ x hx => by
  unfold bkG at hx
  exact of_decide_eq_true (List.mem_filter.1 hx).2
def shutG (n : Nat) (without : Int) : List Bool := if hasG n without then (List.replicate n false).set without.toNat true else List.replicate n false
theorem shutG_len (n : Nat) (without : Int) : (shutG n without).length = n := by unfold shutG; split <;> simp
def reachP (g : List GB) (to_ without : Int) : List Bool := if wholeG g && hasG g.length to_ then markP (List.replicate g.length false) (srcP (bkG g) g.length (shutG g.length without) to_.toNat).2 else List.replicate g.length false

set_option maxRecDepth 100000 in
set_option maxHeartbeats 16000000 in
theorem reach_g (n0 : Nat) (f : Value) (g : List GB) (to_ without : Int) (w : World) (hf : GF n0 w f g) (hn : n0 ≤ w.heap.size) (hto : InG to_) (hwi : InG without) :
    Calls Try.prog 16 #[f, .int .i64 to_, .int .i64 without] w fun e w' => ∃ v, e = .returned v ∧ w'.ownsRow w.heap.size 4 1 v g.length (boolsV (reachP g to_ without)) ∧ Below w.heap.size w w' := by
  obtain ⟨s, pA, pn, pc, r, iA, in_, ic, bA, bn, bc, rfl, hG, hbn⟩ := hf
  obtain ⟨W, hW, hbW, hzW, h0W⟩ := gr_one w #[.string s, .slice pA pn pc, .int .i64 r, .slice iA in_ ic, .slice bA bn bc] 27
  obtain ⟨x0, x1, x2, x3, x4, -⟩ := gr_five h0W
  have hlen : bn ≤ 1048576 := by rw [hbn]; obtain ⟨_, _, _, h, _⟩ := hG; exact h
  obtain ⟨i0, hi0, hz0, hz1, hz2⟩ := info_parts infoBoolG
  have Hi := Lib.hid hi0
  have Hz0 := Lib.hid hz0
  have Hz1 := Lib.hid hz1
  have Hz2 := Lib.hid hz2
  have HG := Lib.hid hG
  have Hbn := Lib.hid hbn
  have HbW := Lib.hid hbW
  have HW := Lib.hid hW
  have HzW := Lib.hid hzW
  have H0W := Lib.hid h0W
  have Hto := Lib.hid hto
  have Hwi := Lib.hid hwi
  have hfr : ∀ A : World, Below n0 w A → GF n0 A (.agg #[.string s, .slice pA pn pc, .int .i64 r, .slice iA in_ ic, .slice bA bn bc]) g := fun A hA => ⟨s, pA, pn, pc, r, iA, in_, ic, bA, bn, bc, rfl, hG.keep hA, hbn⟩
  have Hfr := Lib.hid hfr
  clear hi0 hz0 hz1 hz2 hbW hW hG hbn hzW h0W hto hwi hfr
  refine calls_of_wp_marks Try.func16 rfl ?_
  simp only [Try.ntmps16, List.size_toArray, List.length_cons, List.length_nil, Nat.reduceAdd, Nat.reduceSub, Array.replicate_succ, Array.replicate_zero, List.push_toArray, List.append_toArray, List.nil_append, List.cons_append]
  go_upto_region 1 with fail
  rw [← HW.out]
  go_wp2_with (at_make; refine wpList_make_full _ rfl (.tmp 12) (.tmp 12) 35 rfl W.heap.size 4 i0 (.bool false) 1 Try.underlying35 Hi.out Hz0.out Hz1.out _ _ _ _ bn rfl rfl rfl rfl (by rw [Hz2.out]; omega) (by unfold maxLen; omega) (Nat.le_refl _) ?_)
  intro w2 ho2 hg2
  have hb2 : Below W.heap.size W w2 := (Below.refl _ _).grown hg2 (Nat.le_refl _) (fun k e => by cases e)
  rw [madeBool] at ho2
  have hfull := own_full ho2
  obtain ⟨Z, hZ, hbZ, hzZ, h0Z⟩ := gr_one w2 #[.slice (some ⟨W.heap.size, 0, none⟩) bn bn] 35
  obtain ⟨X7, hX7⟩ : ∃ X7, X7 = w2.heap.size := ⟨_, rfl⟩
  have hW7 : W.heap.size < X7 := by rw [hX7]; exact (ho2.lt W.heap.size rfl).2
  have hrbZ := (hbZ.block W.heap.size (by omega)).trans hfull
  rw [← hX7] at h0Z hzZ
  have hwZ : Below w.heap.size w Z := (HbW.out.trans (hb2.mono (by have := HzW.out; omega))).trans (hbZ.mono (by have := HzW.out; omega))
  have h0fZ : Z.heap[w.heap.size]? = some (.cells #[.string s, .slice pA pn pc, .int .i64 r, .slice iA in_ ic, .slice bA bn bc] 27 (0, 0)) := ((hbZ.mono (by omega : X7 ≤ w2.heap.size)).block w.heap.size (by have := HzW.out; omega)).trans ((hb2.block w.heap.size (by have := HzW.out; omega)).trans H0W.out)
  have hWh := whole_g n0 _ g Z (Hfr.out Z (hwZ.mono hn)) (by have := hwZ.size; omega)
  have HrbZ := Lib.hid hrbZ
  have H0Z := Lib.hid h0Z
  have HzZ := Lib.hid hzZ
  have HwZ := Lib.hid hwZ
  have H0fZ := Lib.hid h0fZ
  have HZ := Lib.hid hZ
  have HX7 := Lib.hid hX7
  clear hb2 ho2 hg2 hfull hZ hbZ hzZ h0Z hX7 hrbZ hwZ h0fZ x0 x1 x2 x3 x4
  go_upto_region 2 with fail
  rw [← HZ.out, ← HX7.out]
  obtain ⟨x0, x1, x2, x3, x4, -⟩ := gr_five H0fZ.out
  cases hqw : wholeG g with
  | false =>
    rw [hqw] at hWh
    have hres : reachP g to_ without = List.replicate bn false := by unfold reachP; rw [hqw, Hbn.out]; simp
    go_wp2_with (go_at_call 19; refine hWh.mono ?_; rintro e w3 ⟨rfl, h3⟩; have H3 := Lib.hid h3; have c7 : w3.cell? ⟨X7, 0, none⟩ = some (.slice (some ⟨W.heap.size, 0, none⟩) bn bn) := (h3.cell (p := ⟨X7, 0, none⟩) (by show X7 < Z.heap.size; have := HzZ.out; omega)).trans (Lib.cell_of_heap H0Z.out 0); clear h3 hWh)
    refine ⟨_, results_tmp rfl _ _ _, .slice (some ⟨W.heap.size, 0, none⟩) bn bn, rfl, ?_, HwZ.out.trans (H3.out.mono HwZ.out.size)⟩
    rw [hres, ← Hbn.out]
    exact full_own ((H3.out.block W.heap.size (by have := HzZ.out; omega)).trans HrbZ.out) (by simp [boolsV]) (by have := HzW.out; omega) (by unfold maxLen; omega)
  | true =>
    rw [hqw] at hWh
    have HqW := Lib.hid hqw
    clear hqw
    go_wp2_with (go_at_call 19; refine hWh.mono ?_; rintro e w3 ⟨rfl, h3⟩; have H3 := Lib.hid h3; have h03 := (h3.block w.heap.size (gr_in H0fZ.out)).trans H0fZ.out; obtain ⟨x0, x1, x2, x3, x4, -⟩ := gr_five h03; have H03 := Lib.hid h03; clear h3 hWh h03)
    have hT := has_g s pA iA bA pn pc in_ ic bn bc r to_ w3 hlen Hto.out
    cases hqt : hasG g.length to_ with
    | false =>
      rw [Hbn.out, hqt] at hT
      rw [← Hbn.out] at hT
      have hres : reachP g to_ without = List.replicate bn false := by unfold reachP; rw [hqt, Hbn.out]; simp
      go_wp2_with (go_at_call 23; refine hT.mono ?_; rintro e w4 ⟨rfl, h4⟩; have H4 := Lib.hid h4; have c7 : w4.cell? ⟨X7, 0, none⟩ = some (.slice (some ⟨W.heap.size, 0, none⟩) bn bn) := (h4.cell (p := ⟨X7, 0, none⟩) (by show X7 < w3.heap.size; have := HzZ.out; have := H3.out.size; omega)).trans ((H3.out.cell (p := ⟨X7, 0, none⟩) (by show X7 < Z.heap.size; have := HzZ.out; omega)).trans (Lib.cell_of_heap H0Z.out 0)); clear h4 hT)
      refine ⟨_, results_tmp rfl _ _ _, .slice (some ⟨W.heap.size, 0, none⟩) bn bn, rfl, ?_, (HwZ.out.trans (H3.out.mono HwZ.out.size)).trans (H4.out.mono (Nat.le_trans HwZ.out.size H3.out.size))⟩
      rw [hres, ← Hbn.out]
      exact full_own ((H4.out.block W.heap.size (by have := HzZ.out; have := H3.out.size; omega)).trans ((H3.out.block W.heap.size (by have := HzZ.out; omega)).trans HrbZ.out)) (by simp [boolsV]) (by have := HzW.out; omega) (by unfold maxLen; omega)
    | true =>
      rw [Hbn.out, hqt] at hT
      rw [← Hbn.out] at hT
      obtain ⟨p0, p1⟩ : 0 ≤ to_ ∧ to_ < g.length := of_decide_eq_true hqt
      rw [← Hbn.out] at p1
      obtain ⟨tn, htn⟩ : ∃ tn : Nat, to_ = tn := ⟨to_.toNat, by omega⟩
      subst htn
      have htb : tn < bn := by omega
      have Hqt := Lib.hid hqt
      clear hqt p0 p1
      go_upto_region 4 with (go_at_call 23; refine hT.mono ?_; rintro e w4 ⟨rfl, h4⟩; have H4 := Lib.hid (H3.out.trans (h4.mono H3.out.size)); clear h4 hT)
      clear x0 x1 x2 x3 x4
      have h04 := (H4.out.block w.heap.size (gr_in H0fZ.out)).trans H0fZ.out
      obtain ⟨x0, x1, x2, x3, x4, -⟩ := gr_five h04
      go_wp2_with (at_make; refine wpList_make_full _ rfl (.tmp 26) (.tmp 26) 35 rfl w4.heap.size 4 i0 (.bool false) 1 Try.underlying35 Hi.out Hz0.out Hz1.out _ _ _ _ bn rfl rfl rfl rfl (by rw [Hz2.out]; omega) (by unfold maxLen; omega) (Nat.le_refl _) ?_)
      intro w5 ho5 hg5
      have hb5 : Below w4.heap.size w4 w5 := (Below.refl _ _).grown hg5 (Nat.le_refl _) (fun k e => by cases e)
      rw [madeBool] at ho5
      have hsb5 := own_full ho5
      have hb5Z : Below Z.heap.size Z w5 := H4.out.trans (hb5.mono H4.out.size)
      have h05 := (hb5Z.block w.heap.size (gr_in H0fZ.out)).trans H0fZ.out
      have hW2 := has_g s pA iA bA pn pc in_ ic bn bc r without w5 hlen Hwi.out
      have hsbl : w4.heap.size < w5.heap.size := gr_in hsb5
      have Hb5Z := Lib.hid hb5Z
      have Hsb5 := Lib.hid hsb5
      clear hg5 hb5 ho5 hsb5 hb5Z h04 x0 x1 x2 x3 x4
      obtain ⟨x0, x1, x2, x3, x4, -⟩ := gr_five h05
      have H05 := Lib.hid h05
      clear h05
      rw [Hbn.out] at hW2
      cases hqo : hasG g.length without with
      | false =>
        rw [hqo] at hW2
        rw [← Hbn.out] at hW2
        go_upto_region 7 with (go_at_call 23; refine hW2.mono ?_; rintro e w6 ⟨rfl, h6⟩; have H6 := Lib.hid h6; clear h6 hW2)
        have hsh : w6.heap[w4.heap.size]? = some (.cells (boolsV (shutG bn without)).toArray 4 (0, 0)) := by
          unfold shutG
          rw [Hbn.out, hqo, ← Hbn.out]
          exact (H6.out.block _ hsbl).trans Hsb5.out
        have hb6 : Below Z.heap.size Z w6 := Hb5Z.out.trans (H6.out.mono Hb5Z.out.size)
        clear x0 x1 x2 x3 x4
        have h06 := (hb6.block w.heap.size (gr_in H0fZ.out)).trans H0fZ.out
        obtain ⟨x0, x1, x2, x3, x4, -⟩ := gr_five h06
        have hgf : GF n0 w6 (.agg #[.string s, .slice pA pn pc, .int .i64 r, .slice iA in_ ic, .slice bA bn bc]) g := Hfr.out w6 ((HwZ.out.trans (hb6.mono HwZ.out.size)).mono hn)
        have hBP := byPreds_g n0 _ g w6 hgf (by have := HwZ.out.size; have := hb6.size; omega)
        have Hb6 := Lib.hid hb6
        have Hsh := Lib.hid hsh
        have hw46 : w4.heap.size < w6.heap.size := gr_in hsh
        have hW46 : W.heap.size < w4.heap.size ∧ X7 < w4.heap.size := by have := HzZ.out; have := H4.out.size; constructor <;> omega
        have hn4 : n0 ≤ W.heap.size := by have := HzW.out; omega
        clear hb6 hsh hgf h06
        go_wp2_with (first
          | (go_at_call 25; refine hBP.mono ?_; rintro e w7 ⟨hb7, hz7, lb, rfl, hBA⟩; have hSG := sources_g 31 lb tn w4.heap.size bn w7; have Hb7 := Lib.hid hb7; have Hz7 := Lib.hid hz7; have HBA := Lib.hid hBA; clear hb7 hz7 hBA hBP)
          | (go_at_call 24; refine hSG.mono ?_; rintro e w8 ⟨rfl, h8⟩; have H8 := Lib.hid h8; clear h8 hSG))
        obtain ⟨hb8, hz8, hk8, ht8, hs8⟩ := H8.out
        have hz7 := Hz7.out
        have hbk := bkG_in g
        have hbl : bn = g.length := Hbn.out
        have hrun := srcP_run (bk := bkG g) (sh := shutG bn without) (b := tn) hbk (by rw [shutG_len]; exact hbl) (by omega)
        have hspec := srcP_spec (bk := bkG g) (sh := shutG bn without) (b := tn) hbk (by rw [shutG_len]; exact hbl) (by omega)
        rw [← hbl] at hrun hspec
        obtain ⟨sh2, hsh2⟩ : ∃ sh2, sh2 = (srcP (bkG g) bn (shutG bn without) tn).1 := ⟨_, rfl⟩
        obtain ⟨xs, hxs⟩ : ∃ xs, xs = (srcP (bkG g) bn (shutG bn without) tn).2 := ⟨_, rfl⟩
        have hrun2 : srcRun (bkG g) (2 * bn + 2) (enterP tn (shutG bn without, [])).1 (enterP tn (shutG bn without, [])).2 [] = some (sh2, xs) := by rw [hrun, hsh2, hxs]
        have hxlt : ∀ x ∈ xs, x < bn := by rw [hxs]; exact hspec.2.2.2.2
        have hbinn : ∀ b, b < bn → ∀ x ∈ bkG g b, 0 ≤ x ∧ x < (bn : Int) := by rw [hbl]; exact hbk
        have h68 : Below w6.heap.size w6 w8 := Hb7.out.trans (hb8.mono (by omega))
        have hseq : ∀ W1, Below w8.heap.size w8 W1 → SepGives Try.prog 29 #[.pointer (some ⟨w7.heap.size + 2, 0, none⟩), .pointer (some ⟨w7.heap.size + 1, 0, none⟩), .pointer (some ⟨w7.heap.size, 0, none⟩)] (fun b : Nat => .int .i64 (b : Int)) xs (fun k => ((k < n0 ∨ k = w6.heap.size) ∨ k = w7.heap.size + 2 ∨ k = w7.heap.size + 1) ∨ k = w7.heap.size ∨ k = w4.heap.size) (fun k => k = w4.heap.size) (fun W' => W'.heap[w4.heap.size]? = some (.cells (boolsV sh2).toArray 4 (0, 0))) W1 := fun W1 hb1 => by
          refine sources_sep (w7.heap.size + 2) (w7.heap.size + 1) w7.heap.size w4.heap.size bn tn (2 * bn + 2) (.func (.func 31) #[] lb) (bkG g) (shutG bn without) sh2 xs (fun k => k < n0 ∨ k = w6.heap.size) _ W1 (Lib.cell_of_heap ((hb1.block _ (by omega)).trans hs8) 0) ((hb1.block _ (by omega)).trans ((h68.block _ hw46).trans Hsh.out)) (Lib.cell_of_heap ((hb1.block _ (by omega)).trans ht8) 0) htb (Lib.cell_of_heap ((hb1.block _ (by omega)).trans hk8) 0) ?_ hbinn (shutG_len _ _) hlen (fun k hk => .inl (.inl hk)) ⟨.inl (.inr (.inl rfl)), .inl (.inr (.inr rfl)), .inr (.inl rfl), .inr (.inr rfl)⟩ (fun k hk => by
              have := hb1.size
              rcases hk with ((h | h) | h | h) | h | h <;> omega) ⟨by omega, by omega, by omega, by omega, by omega⟩ hrun2
          rw [hbl]
          exact HBA.out.later (by have := hb1.size; omega) (fun k hk => (hb1.block k (by rcases hk with h | h <;> omega)).trans (hb8.block k (by rcases hk with h | h <;> omega)))
        have hb68 : Below Z.heap.size Z w8 := Hb6.out.trans (h68.mono Hb6.out.size)
        have hr0 := (hb68.block W.heap.size (by have := HzZ.out; omega)).trans HrbZ.out
        have hx0 := (hb68.block X7 (by have := HzZ.out; omega)).trans H0Z.out
        have hres : reachP g (tn : Int) without = markP (List.replicate bn false) xs := by
          unfold reachP
          rw [HqW.out, Hqt.out, hxs, ← hbl]
          simp
        have Hseq := Lib.hid hseq
        have Hxlt := Lib.hid hxlt
        have Hr0 := Lib.hid hr0
        have Hx0 := Lib.hid hx0
        have Hb68 := Lib.hid hb68
        have Hres := Lib.hid hres
        have hs48 : w4.heap.size < w8.heap.size := by omega
        clear hseq hxlt hr0 hx0 hb68 hres hrun hspec hsh2 hxs hrun2 hbinn h68 hb8 hk8 ht8 hs8 hbk hbl H8 HBA Hb7 Hsh x0 x1 x2 x3 x4
        refine wp_range_sep_at (q := 9) rfl enters_sources (fun W1 h => Hseq.out W1 h) (fun A B h1 h2 h3 => (h3 _ hs48).trans h1)
          (fun pre F A => (∀ k, F k ↔ (k = W.heap.size ∨ k = X7)) ∧ A.heap[W.heap.size]? = some (.cells (boolsV (markP (List.replicate bn false) pre)).toArray 4 (0, 0)) ∧ A.heap[X7]? = some (.cells #[.slice (some ⟨W.heap.size, 0, none⟩) bn bn] 35 (0, 0)))
          (fun k => k = W.heap.size ∨ k = X7) ?ioff1 ?ilt1 ?f01 ?s1 ?i01 ?assign1 ?body1 ?done1
        case ioff1 =>
          rintro pre F A B ⟨hF, h1, h2⟩ hst
          exact ⟨hF, (hst.block _ ((hF _).2 (.inl rfl))).trans h1, (hst.block _ ((hF _).2 (.inr rfl))).trans h2⟩
        case ilt1 =>
          rintro pre F A ⟨hF, h1, h2⟩ k hk
          rcases (hF k).1 hk with rfl | rfl
          · exact gr_in h1
          · exact gr_in h2
        case f01 =>
          have hz := HzZ.out
          have hz4 := H4.out.size
          rintro k hk e
          rcases hk with rfl | rfl <;> rcases e with ((h | h) | h | h) | h | h <;> omega
        case s1 =>
          intro k hk
          rcases hk with ((h | h) | h | h) | h | h <;> omega
        case i01 => exact ⟨fun _ => Iff.rfl, Hr0.out, Hx0.out⟩
        case assign1 =>
          intro l x W' K' hK'
          simp only [List.setIfInBounds_toArray, List.set_cons_succ, List.set_cons_zero] at hK' ⊢
          gi_wp2
          exact hK'
        case body1 =>
          rintro l pre x F A ⟨hF, h1, h2⟩ hpre
          have hxb : x < bn := Hxlt.out x (hpre.subset (by simp))
          simp only [List.setIfInBounds_toArray, List.set_cons_succ, List.set_cons_zero]
          have c7 := Lib.cell_of_heap h2 0
          have c0 : ∃ v, A.cell? ⟨W.heap.size, x, none⟩ = some v := ⟨_, by rw [Lib.cell_of_heap h1 x]; simp [boolsV, markP_len, hxb]; rfl⟩
          obtain ⟨v0, c0⟩ := c0
          have cf := Lib.frozen_of_heap h1 x
          obtain ⟨B, hB⟩ : ∃ B, B = A.setCell ⟨W.heap.size, x, none⟩ (.bool true) := ⟨_, rfl⟩
          have hBo : ∀ k, k ≠ W.heap.size → B.heap[k]? = A.heap[k]? := fun k hk => by rw [hB]; exact Below.heap_setCell _ _ _ _ hk
          have hBz : B.heap.size = A.heap.size := by rw [hB]; simp [World.setCell]
          have hB1 : B.heap[W.heap.size]? = some (.cells (boolsV (markP (List.replicate bn false) (pre ++ [x]))).toArray 4 (0, 0)) := by
            rw [hB, gr_put h1 x, markP_snoc]
            simp only [List.setIfInBounds_toArray, boolsV_set]
          have hfin : ∃ F', ((∀ k, F' k ↔ (k = W.heap.size ∨ k = X7)) ∧ B.heap[W.heap.size]? = some (.cells (boolsV (markP (List.replicate bn false) (pre ++ [x]))).toArray 4 (0, 0)) ∧ B.heap[X7]? = some (.cells #[.slice (some ⟨W.heap.size, 0, none⟩) bn bn] 35 (0, 0))) ∧ StepOn F F' A B :=
            ⟨F, ⟨hF, hB1, (hBo X7 (by omega)).trans h2⟩, ⟨by rw [hB]; rfl, by rw [hB]; rfl, by rw [hB]; rfl, by omega, fun k hk hn => hBo k (fun e => hn ((hF k).2 (.inl e))), fun k hk => .inl hk⟩⟩
          have Hfin := Lib.hid hfin
          have HB := Lib.hid hB
          clear hF h1 h2 hpre hB hBo hBz hB1 hfin
          gi_wp2
          rw [← HB.out]
          exact Hfin.out
        case done1 =>
          rintro D F' W' ⟨hF, h1, h2⟩ - hfr8 hD hDn hDF
          have c7 := Lib.cell_of_heap h2 0
          have hbelow : Below w.heap.size w (W'.putObj D (.deferred none)) := by
            have h8 : Below w.heap.size w w8 := HwZ.out.trans (Hb68.out.mono HwZ.out.size)
            have hz := HzZ.out
            have hz4 := H4.out.size
            have hzW := HzW.out
            refine h8.trans ⟨hfr8.os, hfr8.tape, hfr8.output, by simp; exact hfr8.size, fun k hk => ?_⟩
            exact (World.putObj_heap_other (by omega)).trans (hfr8.block k (by omega) (fun e => by rcases e with e | e <;> omega) (by omega))
          have hown : (W'.putObj D (.deferred none)).ownsRow w.heap.size 4 1 (.slice (some ⟨W.heap.size, 0, none⟩) bn bn) bn (boolsV (markP (List.replicate bn false) xs)) :=
            full_own ((World.putObj_heap_other (by omega)).trans h1) (by simp [boolsV, markP_len]) (by have := HzW.out; omega) (by unfold maxLen; omega)
          have Hbelow := Lib.hid hbelow
          have Hown := Lib.hid hown
          have HD := Lib.hid hD
          clear hF h1 h2 hfr8 hD hDF hbelow hown hDn
          go_wp2
          refine ⟨by simp, .inl ⟨D, _, rfl, run_takeDeferred HD.out, ?_⟩⟩
          refine ⟨_, results_tmp rfl _ _ _, .slice (some ⟨W.heap.size, 0, none⟩) bn bn, rfl, ?_, Hbelow.out⟩
          rw [Hres.out, ← Hbn.out]
          exact Hown.out
      | true =>
        rw [hqo] at hW2
        rw [← Hbn.out] at hW2
        obtain ⟨q0, q1⟩ : 0 ≤ without ∧ without < g.length := of_decide_eq_true hqo
        rw [← Hbn.out] at q1
        obtain ⟨wo, hwo⟩ : ∃ wo : Nat, without = wo := ⟨without.toNat, by omega⟩
        have hwob : wo < bn := by omega
        have Hwo := Lib.hid hwo
        subst hwo
        go_upto_region 6 with (go_at_call 23; refine hW2.mono ?_; rintro e w6 ⟨rfl, h6⟩; have H6 := Lib.hid h6; clear h6 hW2)
        have hs6 := (H6.out.block _ hsbl).trans Hsb5.out
        have c0 : ∃ x, w6.cell? ⟨w4.heap.size, wo, none⟩ = some x := ⟨_, by rw [Lib.cell_of_heap hs6 wo]; simp [boolsV, hwob]; rfl⟩
        obtain ⟨x, c0⟩ := c0
        have cf := Lib.frozen_of_heap hs6 wo
        obtain ⟨V6, hV6⟩ : ∃ V6, V6 = w6.setCell ⟨w4.heap.size, wo, none⟩ (.bool true) := ⟨_, rfl⟩
        have hsh : V6.heap[w4.heap.size]? = some (.cells (boolsV (shutG bn (wo : Int))).toArray 4 (0, 0)) := by
          unfold shutG
          rw [Hbn.out, hqo, ← Hbn.out, if_pos rfl, hV6, gr_put hs6 wo]
          simp only [List.setIfInBounds_toArray, boolsV_set, Int.toNat_natCast]
        have hb6 : Below Z.heap.size Z V6 := by
          rw [hV6]
          exact (Hb5Z.out.trans (H6.out.mono Hb5Z.out.size)).setCell (p := ⟨w4.heap.size, wo, none⟩) (by have := H4.out.size; exact this) _
        have hz6 : w4.heap.size < V6.heap.size := gr_in hsh
        have HV6 := Lib.hid hV6
        clear hV6 hs6
        go_upto_region 7 with fail
        rw [← HV6.out]
        clear c0 cf
        clear x0 x1 x2 x3 x4
        have h06 := (hb6.block w.heap.size (gr_in H0fZ.out)).trans H0fZ.out
        obtain ⟨x0, x1, x2, x3, x4, -⟩ := gr_five h06
        have hgf : GF n0 V6 (.agg #[.string s, .slice pA pn pc, .int .i64 r, .slice iA in_ ic, .slice bA bn bc]) g := Hfr.out V6 ((HwZ.out.trans (hb6.mono HwZ.out.size)).mono hn)
        have hBP := byPreds_g n0 _ g V6 hgf (by have := HwZ.out.size; have := hb6.size; omega)
        have Hb6 := Lib.hid hb6
        have Hsh := Lib.hid hsh
        have hw46 : w4.heap.size < V6.heap.size := gr_in hsh
        have hW46 : W.heap.size < w4.heap.size ∧ X7 < w4.heap.size := by have := HzZ.out; have := H4.out.size; constructor <;> omega
        have hn4 : n0 ≤ W.heap.size := by have := HzW.out; omega
        clear hb6 hsh hgf h06
        go_wp2_with (first
          | (go_at_call 25; refine hBP.mono ?_; rintro e w7 ⟨hb7, hz7, lb, rfl, hBA⟩; have hSG := sources_g 31 lb tn w4.heap.size bn w7; have Hb7 := Lib.hid hb7; have Hz7 := Lib.hid hz7; have HBA := Lib.hid hBA; clear hb7 hz7 hBA hBP)
          | (go_at_call 24; refine hSG.mono ?_; rintro e w8 ⟨rfl, h8⟩; have H8 := Lib.hid h8; clear h8 hSG))
        obtain ⟨hb8, hz8, hk8, ht8, hs8⟩ := H8.out
        have hz7 := Hz7.out
        have hbk := bkG_in g
        have hbl : bn = g.length := Hbn.out
        have hrun := srcP_run (bk := bkG g) (sh := shutG bn (wo : Int)) (b := tn) hbk (by rw [shutG_len]; exact hbl) (by omega)
        have hspec := srcP_spec (bk := bkG g) (sh := shutG bn (wo : Int)) (b := tn) hbk (by rw [shutG_len]; exact hbl) (by omega)
        rw [← hbl] at hrun hspec
        obtain ⟨sh2, hsh2⟩ : ∃ sh2, sh2 = (srcP (bkG g) bn (shutG bn (wo : Int)) tn).1 := ⟨_, rfl⟩
        obtain ⟨xs, hxs⟩ : ∃ xs, xs = (srcP (bkG g) bn (shutG bn (wo : Int)) tn).2 := ⟨_, rfl⟩
        have hrun2 : srcRun (bkG g) (2 * bn + 2) (enterP tn (shutG bn (wo : Int), [])).1 (enterP tn (shutG bn (wo : Int), [])).2 [] = some (sh2, xs) := by rw [hrun, hsh2, hxs]
        have hxlt : ∀ x ∈ xs, x < bn := by rw [hxs]; exact hspec.2.2.2.2
        have hbinn : ∀ b, b < bn → ∀ x ∈ bkG g b, 0 ≤ x ∧ x < (bn : Int) := by rw [hbl]; exact hbk
        have h68 : Below V6.heap.size V6 w8 := Hb7.out.trans (hb8.mono (by omega))
        have hseq : ∀ W1, Below w8.heap.size w8 W1 → SepGives Try.prog 29 #[.pointer (some ⟨w7.heap.size + 2, 0, none⟩), .pointer (some ⟨w7.heap.size + 1, 0, none⟩), .pointer (some ⟨w7.heap.size, 0, none⟩)] (fun b : Nat => .int .i64 (b : Int)) xs (fun k => ((k < n0 ∨ k = V6.heap.size) ∨ k = w7.heap.size + 2 ∨ k = w7.heap.size + 1) ∨ k = w7.heap.size ∨ k = w4.heap.size) (fun k => k = w4.heap.size) (fun W' => W'.heap[w4.heap.size]? = some (.cells (boolsV sh2).toArray 4 (0, 0))) W1 := fun W1 hb1 => by
          refine sources_sep (w7.heap.size + 2) (w7.heap.size + 1) w7.heap.size w4.heap.size bn tn (2 * bn + 2) (.func (.func 31) #[] lb) (bkG g) (shutG bn (wo : Int)) sh2 xs (fun k => k < n0 ∨ k = V6.heap.size) _ W1 (Lib.cell_of_heap ((hb1.block _ (by omega)).trans hs8) 0) ((hb1.block _ (by omega)).trans ((h68.block _ hw46).trans Hsh.out)) (Lib.cell_of_heap ((hb1.block _ (by omega)).trans ht8) 0) htb (Lib.cell_of_heap ((hb1.block _ (by omega)).trans hk8) 0) ?_ hbinn (shutG_len _ _) hlen (fun k hk => .inl (.inl hk)) ⟨.inl (.inr (.inl rfl)), .inl (.inr (.inr rfl)), .inr (.inl rfl), .inr (.inr rfl)⟩ (fun k hk => by
              have := hb1.size
              rcases hk with ((h | h) | h | h) | h | h <;> omega) ⟨by omega, by omega, by omega, by omega, by omega⟩ hrun2
          rw [hbl]
          exact HBA.out.later (by have := hb1.size; omega) (fun k hk => (hb1.block k (by rcases hk with h | h <;> omega)).trans (hb8.block k (by rcases hk with h | h <;> omega)))
        have hb68 : Below Z.heap.size Z w8 := Hb6.out.trans (h68.mono Hb6.out.size)
        have hr0 := (hb68.block W.heap.size (by have := HzZ.out; omega)).trans HrbZ.out
        have hx0 := (hb68.block X7 (by have := HzZ.out; omega)).trans H0Z.out
        have hres : reachP g (tn : Int) (wo : Int) = markP (List.replicate bn false) xs := by
          unfold reachP
          rw [HqW.out, Hqt.out, hxs, ← hbl]
          simp
        have Hseq := Lib.hid hseq
        have Hxlt := Lib.hid hxlt
        have Hr0 := Lib.hid hr0
        have Hx0 := Lib.hid hx0
        have Hb68 := Lib.hid hb68
        have Hres := Lib.hid hres
        have hs48 : w4.heap.size < w8.heap.size := by omega
        clear hseq hxlt hr0 hx0 hb68 hres hrun hspec hsh2 hxs hrun2 hbinn h68 hb8 hk8 ht8 hs8 hbk hbl H8 HBA Hb7 Hsh x0 x1 x2 x3 x4
        refine wp_range_sep_at (q := 9) rfl enters_sources (fun W1 h => Hseq.out W1 h) (fun A B h1 h2 h3 => (h3 _ hs48).trans h1)
          (fun pre F A => (∀ k, F k ↔ (k = W.heap.size ∨ k = X7)) ∧ A.heap[W.heap.size]? = some (.cells (boolsV (markP (List.replicate bn false) pre)).toArray 4 (0, 0)) ∧ A.heap[X7]? = some (.cells #[.slice (some ⟨W.heap.size, 0, none⟩) bn bn] 35 (0, 0)))
          (fun k => k = W.heap.size ∨ k = X7) ?ioff2 ?ilt2 ?f02 ?s2 ?i02 ?assign2 ?body2 ?done2
        case ioff2 =>
          rintro pre F A B ⟨hF, h1, h2⟩ hst
          exact ⟨hF, (hst.block _ ((hF _).2 (.inl rfl))).trans h1, (hst.block _ ((hF _).2 (.inr rfl))).trans h2⟩
        case ilt2 =>
          rintro pre F A ⟨hF, h1, h2⟩ k hk
          rcases (hF k).1 hk with rfl | rfl
          · exact gr_in h1
          · exact gr_in h2
        case f02 =>
          have hz := HzZ.out
          have hz4 := H4.out.size
          rintro k hk e
          rcases hk with rfl | rfl <;> rcases e with ((h | h) | h | h) | h | h <;> omega
        case s2 =>
          intro k hk
          rcases hk with ((h | h) | h | h) | h | h <;> omega
        case i02 => exact ⟨fun _ => Iff.rfl, Hr0.out, Hx0.out⟩
        case assign2 =>
          intro l x W' K' hK'
          simp only [List.setIfInBounds_toArray, List.set_cons_succ, List.set_cons_zero] at hK' ⊢
          gi_wp2
          exact hK'
        case body2 =>
          rintro l pre x F A ⟨hF, h1, h2⟩ hpre
          have hxb : x < bn := Hxlt.out x (hpre.subset (by simp))
          simp only [List.setIfInBounds_toArray, List.set_cons_succ, List.set_cons_zero]
          have c7 := Lib.cell_of_heap h2 0
          have c0 : ∃ v, A.cell? ⟨W.heap.size, x, none⟩ = some v := ⟨_, by rw [Lib.cell_of_heap h1 x]; simp [boolsV, markP_len, hxb]; rfl⟩
          obtain ⟨v0, c0⟩ := c0
          have cf := Lib.frozen_of_heap h1 x
          obtain ⟨B, hB⟩ : ∃ B, B = A.setCell ⟨W.heap.size, x, none⟩ (.bool true) := ⟨_, rfl⟩
          have hBo : ∀ k, k ≠ W.heap.size → B.heap[k]? = A.heap[k]? := fun k hk => by rw [hB]; exact Below.heap_setCell _ _ _ _ hk
          have hBz : B.heap.size = A.heap.size := by rw [hB]; simp [World.setCell]
          have hB1 : B.heap[W.heap.size]? = some (.cells (boolsV (markP (List.replicate bn false) (pre ++ [x]))).toArray 4 (0, 0)) := by
            rw [hB, gr_put h1 x, markP_snoc]
            simp only [List.setIfInBounds_toArray, boolsV_set]
          have hfin : ∃ F', ((∀ k, F' k ↔ (k = W.heap.size ∨ k = X7)) ∧ B.heap[W.heap.size]? = some (.cells (boolsV (markP (List.replicate bn false) (pre ++ [x]))).toArray 4 (0, 0)) ∧ B.heap[X7]? = some (.cells #[.slice (some ⟨W.heap.size, 0, none⟩) bn bn] 35 (0, 0))) ∧ StepOn F F' A B :=
            ⟨F, ⟨hF, hB1, (hBo X7 (by omega)).trans h2⟩, ⟨by rw [hB]; rfl, by rw [hB]; rfl, by rw [hB]; rfl, by omega, fun k hk hn => hBo k (fun e => hn ((hF k).2 (.inl e))), fun k hk => .inl hk⟩⟩
          have Hfin := Lib.hid hfin
          have HB := Lib.hid hB
          clear hF h1 h2 hpre hB hBo hBz hB1 hfin
          gi_wp2
          rw [← HB.out]
          exact Hfin.out
        case done2 =>
          rintro D F' W' ⟨hF, h1, h2⟩ - hfr8 hD hDn hDF
          have c7 := Lib.cell_of_heap h2 0
          have hbelow : Below w.heap.size w (W'.putObj D (.deferred none)) := by
            have h8 : Below w.heap.size w w8 := HwZ.out.trans (Hb68.out.mono HwZ.out.size)
            have hz := HzZ.out
            have hz4 := H4.out.size
            have hzW := HzW.out
            refine h8.trans ⟨hfr8.os, hfr8.tape, hfr8.output, by simp; exact hfr8.size, fun k hk => ?_⟩
            exact (World.putObj_heap_other (by omega)).trans (hfr8.block k (by omega) (fun e => by rcases e with e | e <;> omega) (by omega))
          have hown : (W'.putObj D (.deferred none)).ownsRow w.heap.size 4 1 (.slice (some ⟨W.heap.size, 0, none⟩) bn bn) bn (boolsV (markP (List.replicate bn false) xs)) :=
            full_own ((World.putObj_heap_other (by omega)).trans h1) (by simp [boolsV, markP_len]) (by have := HzW.out; omega) (by unfold maxLen; omega)
          have Hbelow := Lib.hid hbelow
          have Hown := Lib.hid hown
          have HD := Lib.hid hD
          clear hF h1 h2 hfr8 hD hDF hbelow hown hDn
          go_wp2
          refine ⟨by simp, .inl ⟨D, _, rfl, run_takeDeferred HD.out, ?_⟩⟩
          refine ⟨_, results_tmp rfl _ _ _, .slice (some ⟨W.heap.size, 0, none⟩) bn bn, rfl, ?_, Hbelow.out⟩
          rw [Hres.out, ← Hbn.out]
          exact Hown.out
end Go.Proofs.Ytidhelpibofbiaa
