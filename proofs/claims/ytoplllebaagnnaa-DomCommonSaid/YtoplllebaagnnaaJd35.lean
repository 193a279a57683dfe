/-
  The reference's Valid.
  The reference's walk: by calls within one another.
  The reference's Post.
-/
import Derived.Test.YtoplllebaagnnaaJd30
namespace Go.Proofs.Ytoplllebaagnnaa
set_option linter.unusedVariables false
set_option linter.unusedSimpArgs false
open Go.RowKit

set_option maxRecDepth 100000 in
set_option maxHeartbeats 8000000 in
theorem valid_g (n0 : Nat) (f : Value) (g : List GB) (w : World) (hf : GF n0 w f g) (hn : n0 ≤ w.heap.size) :
    Calls Try.prog 54 #[f] w fun e w' => e = .returned (.bool (wholeG g)) ∧ Below w.heap.size w w' := by
  obtain ⟨s, pA, pn, pc, r, iA, in_, ic, bA, bn, bc, rfl, hG, hbn⟩ := hf
  obtain ⟨W, hW, hbW, hzW, h0W⟩ := gr_one w #[.string s, .slice pA pn pc, .int .i64 r, .slice iA in_ ic, .slice bA bn bc] 27
  obtain ⟨x0, x1, x2, x3, x4, -⟩ := gr_five h0W
  have hlen : bn ≤ 1048576 := by rw [hbn]; obtain ⟨_, _, _, h, _⟩ := hG; exact h
  have HG := Lib.hid (hG.keep (hbW.mono hn))
  have Hbn := Lib.hid hbn
  have HbW := Lib.hid hbW
  have HW := Lib.hid hW
  clear hbW hW hG hbn hzW h0W x0 x1 x2 x3
  go_enter Try.func54, Try.ntmps54
  go_upto_region 1 with fail
  rw [← HW.out]
  go_upto_region 2 with fail
  go_loop [3] (fun u3 => ∃ i : Nat, i ≤ bn ∧ u3 = .int .i64 i ∧ Hid (allTo g i)) (fun u3 => bn - (intOf u3).toNat)
  case atStart => exact ⟨0, Nat.zero_le _, rfl, Lib.hid (fun j d hj => by omega)⟩
  case round =>
    obtain ⟨i, hi, rfl, HT⟩ := hrel
    by_cases hlt : i < bn
    · have hil : i < g.length := by rw [← Hbn.out]; exact hlt
      obtain ⟨b, o, qA, qc, tA, tc, lA, ln, lc, rfl, hb0, c0, c1, c2, c3, c4, rp, rt, hok⟩ := HG.out.at hil
      obtain ⟨m, hm⟩ : ∃ m, m = g[i].to_.length := ⟨_, rfl⟩
      have hml : m ≤ 1048576 := by rw [hm]; exact hok.2.2.1
      obtain ⟨d, hd⟩ : ∃ d, d = g[i] := ⟨_, rfl⟩
      have hgd : g[i]? = some d := by rw [hd]; exact List.getElem?_eq_getElem hil
      rw [← hm] at c4 rt
      rw [← hd] at rt hok hm
      have Hgd := Lib.hid hgd
      have Hrt := Lib.hid rt
      have Hok := Lib.hid hok
      have Hm := Lib.hid hm
      clear rp hd hgd rt hok hm c0 c1 c2 c3 hb0 hil
      go_upto_region 5 with fail
      go_loop [4] (fun u4 => ∃ j : Nat, j ≤ m ∧ u4 = .int .i64 j ∧ Hid (∀ k t, k < j → d.to_[k]? = some t → hasG g.length t = true)) (fun u4 => m - (intOf u4).toNat)
      case atStart => exact ⟨0, Nat.zero_le _, rfl, Lib.hid (fun k t hk => by omega)⟩
      case round =>
        obtain ⟨j, hj, rfl, HT2⟩ := hrel
        by_cases hlt2 : j < m
        · have hjl : j < d.to_.length := by rw [← Hm.out]; exact hlt2
          obtain ⟨b2, o2, rfl, hb2, hc⟩ := Hrt.out.at hjl
          have ht : d.to_[j]? = some d.to_[j] := List.getElem?_eq_getElem hjl
          have htm := List.getElem_mem hjl
          have hti := Hok.out.2.2.2 _ htm
          obtain ⟨t, htt⟩ : ∃ t, t = d.to_[j] := ⟨_, rfl⟩
          rw [← htt] at hc ht htm hti
          obtain ⟨i0, i1⟩ := hti
          have Ht := Lib.hid ht
          have Htm := Lib.hid htm
          clear htt ht htm hb2 hjl
          by_cases t0 : 0 ≤ t
          · by_cases t1 : t < (bn : Int)
            · have hq : hasG g.length t = true := by rw [← Hbn.out]; exact decide_eq_true ⟨t0, t1⟩
              have HT3 : Hid (∀ k t, k < j + 1 → d.to_[k]? = some t → hasG g.length t = true) := Lib.hid (fun k t' hk hk' => by
                by_cases hkj : k = j
                · subst hkj
                  rw [Ht.out] at hk'
                  injection hk' with hk'
                  rw [← hk']
                  exact hq
                · exact HT2.out k t' (by omega) hk')
              clear hq
              go_wp2
              go_round
              case rel => exact ⟨j + 1, by omega, by go_num, HT3⟩
              case measure => simp [intOf]; omega
            · have hq : hasG g.length t = false := by rw [← Hbn.out]; exact decide_eq_false (by omega)
              have Hq := Lib.hid (wholeG_false Hgd.out Htm.out hq)
              clear hq
              go_wp2
              go_ret
              exact ⟨by rw [Hq.out]; rfl, HbW.out⟩
          · have hq : hasG g.length t = false := decide_eq_false (by omega)
            have Hq := Lib.hid (wholeG_false Hgd.out Htm.out hq)
            clear hq
            go_wp2
            go_ret
            exact ⟨by rw [Hq.out]; rfl, HbW.out⟩
        · obtain rfl : j = m := by omega
          have HT3 : Hid (allTo g (i + 1)) := Lib.hid (fun k d' hk hk' => by
            by_cases hki : k = i
            · subst hki
              rw [Hgd.out] at hk'
              injection hk' with hk'
              subst hk'
              intro t ht
              obtain ⟨q, hq, rfl⟩ := List.getElem_of_mem ht
              exact HT2.out q _ (by rw [Hm.out]; exact hq) (List.getElem?_eq_getElem hq)
            · exact HT.out k d' (by omega) hk')
          go_wp2
          go_round
          case rel => exact ⟨i + 1, by omega, by go_num, HT3⟩
          case measure => simp [intOf]; omega
    · obtain rfl : i = bn := by omega
      go_wp2
      go_ret
      refine ⟨?_, HbW.out⟩
      rw [wholeG_true (by rw [← Hbn.out]; exact HT.out), ← Hbn.out]
      by_cases h0 : 0 < i
      · simp [h0]
      · simp [h0]
end Go.Proofs.Ytoplllebaagnnaa
namespace Go.Proofs.Ytoplllebaagnnaa
set_option linter.unusedVariables false
set_option linter.unusedSimpArgs false
open Go.RowKit

/-- Worlds between which only block SB and a row changed. -/
structure WK (SB : Nat) (row : Option Nat) (w w' : World) : Prop where
  os : w'.os = w.os
  tape : w'.tape = w.tape
  output : w'.output = w.output
  size : w.heap.size ≤ w'.heap.size
  block : ∀ k, k < w.heap.size → k ≠ SB → some k ≠ row → w'.heap[k]? = w.heap[k]?
theorem WK.trans {SB : Nat} {r r' : Option Nat} {a b c : World} (h : WK SB r a b) (k : WK SB r' b c) (hr : ∀ x, r' = some x → r = some x ∨ a.heap.size ≤ x) : WK SB r a c :=
  ⟨k.os.trans h.os, k.tape.trans h.tape, k.output.trans h.output, Nat.le_trans h.size k.size, fun x hx hn hne =>
    (k.block x (Nat.lt_of_lt_of_le hx h.size) hn (fun e => by
      rcases hr x e.symm with e2 | e2
      · exact hne e2.symm
      · omega)).trans (h.block x hx hn hne)⟩
theorem WK.below {SB B : Nat} {r : Option Nat} {w w' : World} (h : WK SB r w w') (hS : B ≤ SB) (hr : ∀ x, r = some x → B ≤ x) (hB : B ≤ w.heap.size) : Below B w w' :=
  ⟨h.os, h.tape, h.output, h.size, fun k hk => h.block k (by omega) (by omega) (fun e => by have := hr k e.symm; omega)⟩
theorem WK.of_below {SB : Nat} {r : Option Nat} {w w' : World} (h : Below w.heap.size w w') : WK SB r w w' := ⟨h.os, h.tape, h.output, h.size, fun k hk _ _ => h.block k hk⟩
theorem WK.of_grown {SB : Nat} {r : Option Nat} {w w' : World} (h : w.grownBy w' r) : WK SB r w w' := ⟨h.os, h.tape, h.output, h.size, fun k hk _ hne => h.block k hk hne⟩
theorem WK.put (SB : Nat) (r : Option Nat) (w : World) (j : Nat) (u : Value) : WK SB r w (w.setCell ⟨SB, j, none⟩ u) := ⟨rfl, rfl, rfl, by simp [World.setCell], fun k _ hn _ => Below.heap_setCell _ _ _ _ hn⟩
/-- On the way: what was left so far, what was entered; what else lies where it lay. -/
structure WS (base SB : Nat) (g : List GB) (w0 : World) (row : Option Nat) (w : World) (v : Value) (sh : List Bool) (o : List Nat) : Prop where
  own : w.ownsRow base 3 1 v o.length (natsV o)
  seen : w.heap[SB]? = some (.cells (boolsV sh).toArray 4 (0, 0))
  len : sh.length = g.length
  ne : v.ownBlock ≠ some SB
  new : ∀ x, v.ownBlock = some x → row = some x ∨ w0.heap.size ≤ x
  kept : WK SB row w0 w
theorem WS.trans {base SB : Nat} {g : List GB} {w0 w w2 : World} {row : Option Nat} {v v2 : Value} {sh sh2 : List Bool} {o o2 : List Nat} (h : WS base SB g w0 row w v sh o) (k : WS base SB g w v.ownBlock w2 v2 sh2 o2) : WS base SB g w0 row w2 v2 sh2 o2 :=
  ⟨k.own, k.seen, k.len, k.ne, fun x hx => by
    rcases k.new x hx with h1 | h1
    · exact h.new x h1
    · have := h.kept.size; exact .inr (by omega), h.kept.trans k.kept h.new⟩
theorem WS.from {base SB : Nat} {g : List GB} {w0 w1 w : World} {row : Option Nat} {v : Value} {sh : List Bool} {o : List Nat} (h : WS base SB g w1 row w v sh o) (k : WK SB row w0 w1) : WS base SB g w0 row w v sh o :=
  ⟨h.own, h.seen, h.len, h.ne, fun x hx => by
    rcases h.new x hx with h1 | h1
    · exact .inl h1
    · have := k.size; exact .inr (by omega), k.trans h.kept (fun x e => .inl e)⟩
theorem WS.push {base SB b gp cp : Nat} {g : List GB} {w0 w A2 w5 : World} {row : Option Nat} {v : Value} {sh : List Bool} {o : List Nat} (h : WS base SB g w0 row w v sh o) (hbA : Below w.heap.size w A2)
    (hown : w5.ownsRow base 3 1 (.slice (some ⟨gp, 0, none⟩) (o.length + 1) cp) (o.length + 1) (natsV o ++ [.int .i64 (b : Int)])) (hg : A2.grownBy w5 v.ownBlock) (hat : v.ownBlock = some gp ∨ gp = A2.heap.size) :
    WS base SB g w0 row w5 (.slice (some ⟨gp, 0, none⟩) (o.length + 1) cp) sh (o ++ [b]) := by
  have hS := gr_in h.seen
  have hz := hbA.size
  refine ⟨by simpa [natsV] using hown, (hg.block SB (by omega) (fun e => h.ne e.symm)).trans ((hbA.block SB hS).trans h.seen), h.len, fun e => ?_, fun x hx => ?_, ?_⟩
  · simp [Value.ownBlock] at e
    rcases hat with h1 | h1
    · exact h.ne (by rw [h1, e])
    · omega
  · simp [Value.ownBlock] at hx
    rcases hat with h1 | h1
    · rw [← hx]; exact h.new gp h1
    · have := h.kept.size; exact .inr (by omega)
  · exact h.kept.trans ((WK.of_below (r := v.ownBlock) hbA).trans (WK.of_grown hg) (fun x e => .inl e)) h.new

set_option maxRecDepth 100000 in
set_option maxHeartbeats 16000000 in
theorem walkr_g (n0 base SB n : Nat) (g : List GB) (hg : tosOk g) (hgl : g.length ≤ 1048576) (hng : n = g.length) (hnb : n0 ≤ base) (hnS : n0 ≤ SB) : ∀ (k b : Nat) (sh : List Bool) (o : List Nat) (sh' : List Bool) (o' : List Nat) (f v : Value) (w : World),
    walkP g k b sh o = some (sh', o') → GF n0 w f g → n0 ≤ w.heap.size → base ≤ w.heap.size → w.ownsRow base 3 1 v o.length (natsV o) → w.heap[SB]? = some (.cells (boolsV sh).toArray 4 (0, 0)) → sh.length = g.length → v.ownBlock ≠ some SB → b < g.length → sh.getD b false = false → o.length + unseen sh ≤ 1048576 →
    Calls Try.prog 55 #[f, .int .i64 (b : Int), .slice (some ⟨SB, 0, none⟩) n n, v] w fun e w' => ∃ v', e = .returned v' ∧ WS base SB g w v.ownBlock w' v' sh' o' := by
  intro k
  induction k with
  | zero => intro b sh o sh' o' f v w hw; simp [walkP] at hw
  | succ k ih =>
    intro b sh o sh' o' f v w hw hf hn hbw hown hseen hsl hne hb hbs hun
    obtain ⟨s, pA, pn, pc, r, iA, in_, ic, bA, bn, bc, rfl, hG, hbn⟩ := hf
    obtain rfl : bn = n := by omega
    unfold walkP at hw
    cases hgo : goP (walkP g k) (tosG g b) (sh.set b true) o with
    | none => rw [hgo] at hw; cases hw
    | some q =>
      obtain ⟨s1, of_⟩ := q
      rw [hgo] at hw
      simp only [Option.some.injEq, Prod.mk.injEq] at hw
      obtain ⟨rfl, rfl⟩ := hw
      obtain ⟨vA, vc, rfl⟩ := gr_slice hown
      obtain ⟨row, hrow⟩ : ∃ row, row = (Value.slice vA o.length vc).ownBlock := ⟨_, rfl⟩
      have hrlt : ∀ x, row = some x → n0 ≤ x ∧ x < w.heap.size := fun x e => by
        have := hown.lt x (by rw [← hrow]; exact e)
        omega
      rw [← hrow] at hne ⊢
      obtain ⟨W, hW, hbW, hzW, h0W⟩ := gr_one w #[.string s, .slice pA pn pc, .int .i64 r, .slice iA in_ ic, .slice bA bn bc] 27
      have hSl : SB < w.heap.size := gr_in hseen
      have hsW := (hbW.block SB hSl).trans hseen
      have hoW := gr_up hown hbW
      have hbl : b < bn := by rw [hng]; exact hb
      have hlen : bn ≤ 1048576 := by rw [hng]; exact hgl
      have c0 : ∃ x, W.cell? ⟨SB, b, none⟩ = some x := ⟨_, by rw [Lib.cell_of_heap hsW b]; simp [boolsV, hsl, hb]; rfl⟩
      obtain ⟨cx, c0⟩ := c0
      have cf := Lib.frozen_of_heap hsW b
      obtain ⟨V, hV⟩ : ∃ V, V = W.setCell ⟨SB, b, none⟩ (.bool true) := ⟨_, rfl⟩
      have hVz : V.heap.size = W.heap.size := by rw [hV]; simp [World.setCell]
      have hVs : V.heap[SB]? = some (.cells (boolsV (sh.set b true)).toArray 4 (0, 0)) := by
        rw [hV, gr_put hsW b]
        simp only [List.setIfInBounds_toArray, boolsV_set]
      have hVk : WK SB row W V := by rw [hV]; exact WK.put SB row W b _
      have hwV : WK SB row w V := (WK.of_below hbW).trans hVk (fun x e => .inl e)
      have h0V : V.heap[w.heap.size]? = some (.cells #[.string s, .slice pA pn pc, .int .i64 r, .slice iA in_ ic, .slice bA bn bc] 27 (0, 0)) := (hVk.block w.heap.size (gr_in h0W) (by omega) (fun e => by have := hrlt _ e.symm; omega)).trans h0W
      have hoV : V.ownsRow base 3 1 (.slice vA o.length vc) o.length (natsV o) := by
        rw [hV]
        exact hoW.kept (row := some SB) ⟨rfl, rfl, rfl, by simp [World.setCell], fun k _ hne => Below.heap_setCell _ _ _ _ (fun e => hne (by rw [e]))⟩ (.inr (by rw [← hrow]; exact hne))
      have hS0 : WS base SB g V row V (.slice vA o.length vc) (sh.set b true) o := ⟨hoV, hVs, by simpa using hsl, by rw [← hrow]; exact hne, fun x hx => .inl (by rw [hrow]; exact hx), ⟨rfl, rfl, rfl, Nat.le_refl _, fun _ _ _ _ => rfl⟩⟩
      have hun0 : o.length + unseen (sh.set b true) ≤ 1048576 := by
        have := unseen_set sh b (by omega) hbs
        omega
      obtain ⟨qB, qo, qA, qc, tA, tc, lA, ln, lc, rfl, hq0, d0, d1, d2, d3, d4w, rp, rt, hok⟩ := hG.at hb
      have hto : tosG g b = g[b].to_ := tosG_at hb
      obtain ⟨to_, hto_⟩ : ∃ l, l = g[b].to_ := ⟨_, rfl⟩
      obtain ⟨m, hm⟩ : ∃ m, m = to_.length := ⟨_, rfl⟩
      have hmb : m ≤ 1048576 := by rw [hm, hto_]; exact hok.2.2.1
      rw [← hto_] at hto d4w rt
      rw [← hm] at d4w rt
      rw [hto] at hgo
      have hmem : ∀ t ∈ to_, 0 ≤ t ∧ t < (g.length : Int) := fun t ht => hg b t (by rw [hto]; exact ht)
      obtain ⟨j1, hj1, jz0, jz1, jz2⟩ := info_parts infoIntG
      have Ji := Lib.hid hj1
      have Jz0 := Lib.hid jz0
      have Jz1 := Lib.hid jz1
      have Jz2 := Lib.hid jz2
      have Hmem := Lib.hid hmem
      have Hm := Lib.hid hm
      have Hrt := Lib.hid rt
      have Hd4 := Lib.hid d4w
      have HG := Lib.hid hG
      have Hng := Lib.hid hng
      have Hrlt := Lib.hid hrlt
      have HwV := Lib.hid hwV
      have H0V := Lib.hid h0V
      have HV := Lib.hid hV
      have HW := Lib.hid hW
      have Hih := Lib.hid ih
      have HS0 := Lib.hid hS0
      have HU0 := Lib.hid hun0
      have HGo0 : Hid (goP (walkP g k) (to_.drop 0) (sh.set b true) o = some (s1, of_)) := Lib.hid hgo
      have Hsz := Lib.hid (And.intro hn (And.intro hbw (And.intro hSl (And.intro hzW hVz))))
      have Hhg := Lib.hid hg
      have Hg1 := Lib.hid hgl
      clear hmem hm rt d4w hG hng hrlt hwV h0V hV hW ih hS0 hun0 hgo hn hbw hSl hzW hVz hto hto_ hok rp d0 d1 d2 d3 hoV hVk hVs hoW hown hseen hsW hbW h0W hsl hne hb hbs hun hrow hj1 jz0 jz1 jz2 hg hgl hbn
      go_enter Try.func55, Try.ntmps55
      go_upto_region 1 with fail
      rw [← HW.out]
      go_upto_region 2 with fail
      rw [← HV.out]
      clear c0 cf
      go_upto_region 3 with fail
      go_loopw [9, 3] (fun u9 u3 wr => ∃ (i : Nat) (sh1 : List Bool) (o1 : List Nat), i ≤ m ∧ u9 = .int .i64 i ∧ Hid (goP (walkP g k) (to_.drop i) sh1 o1 = some (s1, of_)) ∧ Hid (o1.length + unseen sh1 ≤ 1048576) ∧ Hid (WS base SB g V row wr u3 sh1 o1)) (fun u9 _ _ => m - (intOf u9).toNat)
      case atStart => exact ⟨0, _, _, Nat.zero_le _, rfl, HGo0, HU0, HS0⟩
      case round =>
        clear HGo0 HU0 HS0
        obtain ⟨i, sh1, o1, hi, rfl, HGo, HU, HS⟩ := hrel
        have hS := HS.out
        obtain ⟨hn, hbw, hSl, hzW, hVz⟩ := Hsz.out
        have hwr : WK SB row w wr := HwV.out.trans hS.kept (fun x e => .inl e)
        have hbr : Below n0 w wr := hwr.below hnS (fun x e => (Hrlt.out x e).1) hn
        have h0r := (hS.kept.block w.heap.size (gr_in H0V.out) (by omega) (fun e => by have := Hrlt.out _ e.symm; omega)).trans H0V.out
        obtain ⟨x0, x1, x2, x3, x4, -⟩ := gr_five h0r
        have d4 := (hbr.cell (p := ⟨qB, _, none⟩) hq0).trans Hd4.out
        have hszr : w.heap.size ≤ wr.heap.size := hwr.size
        by_cases hlti : i < m
        · have hil : i < to_.length := by rw [← Hm.out]; exact hlti
          obtain ⟨b2, o2, rfl, hb2, hc2⟩ := (Hrt.out.keep hbr).at hil
          obtain ⟨t0, t1⟩ := Hmem.out to_[i] (List.getElem_mem hil)
          obtain ⟨t, ht⟩ : ∃ t : Nat, (t : Int) = to_[i] := ⟨to_[i].toNat, by omega⟩
          have hgo := HGo.out
          rw [List.drop_eq_getElem_cons hil, ← ht] at hgo
          unfold goP at hgo
          rw [Int.toNat_natCast] at hgo
          rw [← ht] at hc2 t0 t1
          have htg : t < g.length := by omega
          have htn : t < bn := by rw [Hng.out]; exact htg
          have e0 : wr.cell? ⟨SB, t, none⟩ = some (.bool (sh1.getD t false)) := by
            rw [Lib.cell_of_heap hS.seen t]
            have := boolsV_at sh1 t (by rw [hS.len]; exact htg)
            simpa using this
          cases hqt : sh1.getD t false with
          | true =>
            rw [hqt, if_pos rfl] at hgo
            rw [hqt] at e0
            have HGo2 := Lib.hid hgo
            clear hgo hqt hS hwr hbr h0r HGo t0 t1 ht hb2 hil htg
            go_wp2
            go_roundw
            case rel => exact ⟨i + 1, sh1, o1, by omega, by go_num, HGo2, HU, HS⟩
            case measure => simp [intOf]; omega
          | false =>
            rw [hqt, if_neg (by simp)] at hgo
            rw [hqt] at e0
            cases hw1 : walkP g k t sh1 o1 with
            | none => rw [hw1] at hgo; cases hgo
            | some q2 =>
              obtain ⟨s2, o2'⟩ := q2
              rw [hw1] at hgo
              simp only at hgo
              obtain ⟨-, hcnt⟩ := walkP_len Hhg.out k t sh1 o1 s2 o2' hw1 hS.len htg hqt
              have HU2 : Hid (o2'.length + unseen s2 ≤ 1048576) := Lib.hid (by have := HU.out; omega)
              have hIH := Hih.out t sh1 o1 s2 o2' (.agg #[.string s, .slice pA pn pc, .int .i64 r, .slice iA in_ ic, .slice (some ⟨qB, qo, none⟩) bn bc]) u3 wr hw1 ⟨s, pA, pn, pc, r, iA, in_, ic, _, bn, bc, rfl, HG.out.keep hbr, Hng.out⟩ (by omega) (by omega) hS.own hS.seen hS.len hS.ne htg hqt HU.out
              have HGo2 := Lib.hid hgo
              clear hgo hqt hS hwr hbr h0r HGo t0 t1 ht hb2 hil htg hw1 hcnt
              go_wp2_with (go_at_call 55; refine hIH.mono ?_; rintro e w4 ⟨v4, rfl, hS4⟩; have HS4 := Lib.hid (HS.out.trans hS4); clear hS4 hIH)
              go_roundw
              case rel => exact ⟨i + 1, s2, o2', by omega, by go_num, HGo2, HU2, HS4⟩
              case measure => simp [intOf]; omega
        · obtain rfl : i = m := by omega
          have hgo := HGo.out
          rw [Hm.out, List.drop_length] at hgo
          simp only [goP, Option.some.injEq, Prod.mk.injEq] at hgo
          obtain ⟨rfl, rfl⟩ := hgo
          obtain ⟨A5, c5, hA5⟩ := gr_slice hS.own
          subst hA5
          have hol : o1.length ≤ 1048576 := by have := HU.out; omega
          obtain ⟨A2, hA2, hbA, hzA, h0A⟩ := gr_one wr #[.int .i64 b] 3
          have HOW := Lib.hid (gr_up hS.own hbA)
          have HNW := Lib.hid (World.news_of_block h0A)
          have HOn : Hid (∀ u ∈ ([.int .i64 b] : List Value), u.oneCell' = true) := Lib.hid (by intro u hu; simp at hu; subst hu; rfl)
          have hsz2 : base ≤ A2.heap.size := by have := hbA.size; omega
          have HbA := Lib.hid hbA
          have HzA := Lib.hid hzA
          rw [hA2] at HOW HNW hsz2
          have HA2 := Lib.hid hA2
          clear hA2 hbA hzA h0A hS hwr hbr h0r
          go_wp2_with (at_builtin; refine wpList_append_lies _ rfl (.tmp 46) (.tmp 48) 23 rfl base 3 j1 (.int .i64 0) 1 8 Try.underlying23 Ji.out Jz0.out Jz1.out Jz2.out rfl (by decide) (.slice A5 o1.length c5) o1.length (natsV o1) rfl HOW.out ⟨wr.heap.size, 0, none⟩ 1 1 [.int .i64 b] rfl rfl HNW.out HOn.out (by decide) (by unfold maxLen; omega) (by omega) hsz2 _ rfl ?_)
          intro gp cp w5 hown5 hgrow hat hlt5
          rw [← HA2.out] at hgrow
          have HS5 := Lib.hid ((HS.out.push HbA.out hown5 hgrow (hat.imp id (fun e => by rw [HzA.out]; exact e))).from HwV.out)
          clear hown5 hgrow hat hlt5 HOW HNW hsz2
          go_wp2
          go_ret
          exact ⟨_, rfl, HS5.out⟩
end Go.Proofs.Ytoplllebaagnnaa
namespace Go.Proofs.Ytoplllebaagnnaa
set_option linter.unusedVariables false
set_option linter.unusedSimpArgs false
open Go.RowKit

theorem makeB (n : Nat) (hn : n ≤ 1048576) (W : World) : (Instr.makeSlice 33 (.int .i64 (n : Int)) (.int .i64 (n : Int))).run Try.prog W = .ok (.slice (some ⟨W.heap.size, 0, none⟩) n n) (W.alloc (.cells (boolsV (List.replicate n false)).toArray 4)) := by
  obtain ⟨i0, hi0, hz0, hz1, hz2⟩ := info_parts infoBoolG
  have h := run_make (w := W) (P := Try.prog) 33 4 i0 (.bool false) Try.underlying33 hi0 hz0 .i64 .i64 (n : Int) (n : Int) (by omega) (by omega) (by rw [hz2]; omega) (by omega)
  rw [h, Int.toNat_natCast, hz1, Nat.mul_one, ← madeBool n, Array.toArray_toList]
  rfl

set_option maxRecDepth 100000 in
set_option maxHeartbeats 16000000 in
theorem rpost_g (n0 : Nat) (f : Value) (g : List GB) (w : World) (hf : GF n0 w f g) (hn : n0 ≤ w.heap.size) :
    Calls Try.prog 31 #[f] w fun e w' => ∃ v, e = .returned v ∧ w'.ownsRow w.heap.size 3 1 v (postP g).length (natsV (postP g)) ∧ Below w.heap.size w w' := by
  obtain ⟨s, pA, pn, pc, r, iA, in_, ic, bA, bn, bc, rfl, hG, hbn⟩ := hf
  obtain ⟨W, hW, hbW, hzW, h0W⟩ := gr_one w #[.string s, .slice pA pn pc, .int .i64 r, .slice iA in_ ic, .slice bA bn bc] 27
  obtain ⟨x0, x1, x2, x3, x4, -⟩ := gr_five h0W
  have hlen : bn ≤ 1048576 := by rw [hbn]; obtain ⟨_, _, _, h, _⟩ := hG; exact h
  have hfr : ∀ A : World, Below w.heap.size w A → GF n0 A (.agg #[.string s, .slice pA pn pc, .int .i64 r, .slice iA in_ ic, .slice bA bn bc]) g := fun A hA => ⟨s, pA, pn, pc, r, iA, in_, ic, bA, bn, bc, rfl, hG.keep (hA.mono hn), hbn⟩
  have hH := valid_g n0 _ g W (hfr W hbW) (by omega)
  have Hfr := Lib.hid hfr
  have Hbn := Lib.hid hbn
  have HbW := Lib.hid hbW
  have HW := Lib.hid hW
  have HzW := Lib.hid hzW
  have H0W := Lib.hid h0W
  clear hbW hW hG hbn hzW h0W hfr
  cases hq : wholeG g with
  | false =>
    rw [hq] at hH
    have hnil : postP g = [] := by unfold postP; rw [hq]; rfl
    go_enter Try.func31, Try.ntmps31
    go_upto_region 1 with fail
    rw [← HW.out]
    go_wp2_with (go_at_call 54; refine hH.mono ?_; rintro e w1 ⟨rfl, h1⟩; have H1 := Lib.hid h1; clear h1 hH)
    go_ret
    refine ⟨_, rfl, ?_, HbW.out.trans (H1.out.mono (by rw [HzW.out]; omega))⟩
    rw [hnil]
    exact World.ownsRow_nil _ _ _ _
  | true =>
    rw [hq] at hH
    obtain ⟨s', hwalk, -⟩ := postP_run hq
    obtain ⟨hpos, -⟩ := wholeG_all hq
    have htos := tosOk_of hq
    have hgl : g.length ≤ 1048576 := by rw [← Hbn.out]; exact hlen
    have hWk : ∀ (Z : World) (sb : Nat), w.heap.size ≤ sb → Below w.heap.size w Z → Z.heap[sb]? = some (.cells (boolsV (List.replicate bn false)).toArray 4 (0, 0)) → Calls Try.prog 55 #[.agg #[.string s, .slice pA pn pc, .int .i64 r, .slice iA in_ ic, .slice bA bn bc], .int .i64 0, .slice (some ⟨sb, 0, none⟩) bn bn, .slice none 0 0] Z fun e w' => ∃ v, e = .returned v ∧ w'.ownsRow w.heap.size 3 1 v (postP g).length (natsV (postP g)) ∧ Below w.heap.size w w' := fun Z sb hsb hZ h0Z => by
      have hZs := hZ.size
      have hl := gr_in h0Z
      have h := walkr_g n0 sb sb bn g htos hgl Hbn.out (by omega) (by omega) g.length 0 (List.replicate g.length false) [] s' (postP g) _ (.slice none 0 0) Z hwalk (Hfr.out Z hZ) (by omega) (by omega) (World.ownsRow_nil _ _ _ _) (by rw [← Hbn.out]; exact h0Z) (by simp) (by simp [Value.ownBlock]) hpos (by simp [List.getD, hpos]) (by simp [unseen]; omega)
      refine h.mono ?_
      rintro e w' ⟨v, rfl, hS⟩
      have hk : Below w.heap.size Z w' := hS.kept.below (by omega) (fun x e => by simp [Value.ownBlock] at e) (by omega)
      exact ⟨v, rfl, gr_mono hS.own hsb, hZ.trans hk⟩
    have hmk := makeB bn hlen
    have HWk := Lib.hid hWk
    clear hwalk hpos htos hgl hWk hq
    go_enter Try.func31, Try.ntmps31
    go_upto_region 1 with fail
    rw [← HW.out]
    go_upto_region 3 with (go_at_call 54; refine hH.mono ?_; rintro e w1 ⟨rfl, h1⟩; have H1 := Lib.hid (HbW.out.trans (h1.mono (by rw [HzW.out]; omega))); have h01 := Lib.hid ((h1.block w.heap.size (gr_in H0W.out)).trans H0W.out); clear h1 hH)
    clear x0 x1 x2 x3 x4
    obtain ⟨x0, x1, x2, x3, x4, -⟩ := gr_five h01.out
    obtain ⟨Z, hZ, hbZ, hzZ, h0Z⟩ := gr_one w1 (boolsV (List.replicate bn false)).toArray 4
    have hwZ := H1.out.trans (hbZ.mono H1.out.size)
    rw [hZ] at hwZ h0Z
    have hcall := HWk.out _ w1.heap.size H1.out.size hwZ.drew h0Z
    have h0f := (hbZ.block w.heap.size (gr_in h01.out)).trans h01.out
    rw [hZ] at h0f
    obtain ⟨y0, y1, y2, y3, y4, -⟩ := gr_five h0f
    clear hZ hbZ hzZ h0Z hwZ h0f
    go_region_with (go_at_call 55; refine hcall.mono ?_; rintro e w4 ⟨v4, rfl, ho4, hb4⟩; have Ho4 := Lib.hid ho4; have Hb4 := Lib.hid hb4; clear ho4 hb4 hcall)
    all_goals
      go_wp2
      go_ret
      exact ⟨_, rfl, Ho4.out, Hb4.out⟩
end Go.Proofs.Ytoplllebaagnnaa
