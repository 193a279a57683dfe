/-
  Programs as bytes: there and back, of any changed program.
-/
import Derived.Test.YthhjhdmdfneegaaJc28
import Derived.Test.YthhjhdmdfneegaaJc29
import Derived.Test.YthhjhdmdfneegaaJc30
import Derived.Test.YthhjhdmdfneegaaJc46
import Derived.Test.YthhjhdmdfneegaaJc47
namespace Go.Proofs.Ythhjhdmdfneegaa
set_option linter.unusedVariables false
set_option linter.unusedSimpArgs false
open Go.RowKit

theorem progF_more {mn : Int} {fs : List (List UInt8 × SF)} (h : ProgF mn fs) : (fs.length ≤ 1048576 ∧ ∀ d ∈ fs, FunL d.2) ∧ (∀ d ∈ fs, ∀ x ∈ d.2.ins, InG x.n) := by
  refine ⟨⟨by have := h.fns.1; omega, fun d hd => ?_⟩, fun d hd x hx => ((h.fns.2 d hd).ins.2 x hx).n⟩
  have f := h.fns.2 d hd
  refine ⟨⟨by have := f.params.1; omega, by have := f.ins.1; omega, by have := f.blocks.1; omega⟩, fun x hx => by have := (f.ins.2 x hx).args.1; omega, fun k hk => ?_⟩
  have b := f.blocks.2 k hk
  exact ⟨by have := b.list.1; omega, by have := b.preds.1; omega, by have := b.to_.1; omega⟩
theorem flat_le {α : Type} (g : α → List UInt8) (b : Nat) : ∀ (l : List α), (∀ x ∈ l, (g x).length ≤ b) → (l.flatMap g).length ≤ b * l.length
  | [], _ => by simp
  | x :: l, h => by
    have h1 := h x (by simp)
    have h2 := flat_le g b l (fun y hy => h y (by simp [hy]))
    rw [List.flatMap_cons, List.length_append, List.length_cons, Nat.mul_succ]
    omega
theorem chFn_len {d : List UInt8 × SF} (h : ChOk d) : (cdFn d.1 d.2).length ≤ 20000 := by
  have a1 := cdN_len d.1.length
  have a2 := cdRow_len d.2.params
  have a3 := cdN_len (u64Q d.2.ret)
  have a4 := cdN_len d.2.ins.length
  have a5 := cdN_len d.2.blocks.length
  have b1 := flat_le cdIns 140 d.2.ins (fun x hx => by
    have c0 := h.small.2.2.1 x hx
    have c1 := cdN_len (u64Q x.op)
    have c2 := cdN_len (u64Q x.ty)
    have c3 := cdRow_len x.args
    have c4 := cdN_len (signQ x.n)
    have c5 := cdN_len (u64Q x.to_)
    unfold cdIns
    simp only [List.length_append]
    omega)
  have b2 := flat_le cdBlk 320 d.2.blocks (fun k hk => by
    obtain ⟨c0, c1, c2⟩ := h.small.2.2.2 k hk
    have c3 := cdRow_len k.list
    have c4 := cdRow_len k.preds
    have c5 := cdN_len (u64Q k.kind)
    have c6 := cdN_len (u64Q (k.arg + 1))
    have c7 := cdRow_len k.to_
    unfold cdBlk
    simp only [List.length_append]
    omega)
  have e1 := h.nm
  have e2 := h.fs.p
  have e3 := h.small.1
  have e4 := h.small.2.1
  unfold cdFn cdInss cdBlks
  simp only [List.length_append]
  have m1 : 140 * d.2.ins.length ≤ 140 * 15 := Nat.mul_le_mul_left _ e3
  have m2 : 320 * d.2.blocks.length ≤ 320 * 4 := Nat.mul_le_mul_left _ e4
  omega
theorem chProg_len {mn : Int} {fs : List (List UInt8 × SF)} (hc : ∀ d ∈ fs, ChOk d) (hl : fs.length = 2) : (cdProg mn fs).length ≤ 41000 := by
  have a1 := cdN_len (u64Q mn)
  have a2 := cdN_len fs.length
  have a3 := flat_le (fun d : List UInt8 × SF => cdFn d.1 d.2) 20000 fs (fun d hd => chFn_len (hc d hd))
  unfold cdProg cdFns
  simp only [List.length_append]
  rw [hl] at a3
  omega
theorem ChOk.st {d : List UInt8 × SF} (h : FOk d.2) : StOk d.2 := by
  refine ⟨fun k hk => (h.sh.2 k hk).1, fun k hk x hx => ⟨(h.li k hk x hx).1, (h.li k hk x hx).2.1⟩, h.pr, fun k hk x hx => (h.ph k hk x hx).2.2, fun k hk x hx a ha => ?_, fun k hk => (h.sh.2 k hk).2.2.2.2, h.sh.1⟩
  obtain ⟨l1, l2, l3⟩ := h.li k hk x hx
  have hl : x.toNat < d.2.ins.length := by omega
  simp only [List.getD, List.getElem?_eq_getElem hl, Option.getD_some] at l3
  simp only [d0I, List.getD, List.getElem?_eq_getElem hl, Option.getD_some] at ha
  exact (h.ty _ (List.getElem_mem hl) l3).2.2 a ha
set_option maxRecDepth 100000 in
set_option maxHeartbeats 32000000 in
theorem codeBack_any (n0 : Nat) (A : Option Addr) (ln lc : Nat) (l : List ChD) (w : World) (h : CHs n0 w (.slice A ln lc) l) (hn0 : n0 ≤ w.heap.size) (hok : ∀ d ∈ l, d.ok) (hln : ln ≤ 9223372036854775807) :
    Calls Try.prog 3 #[.slice A ln lc] w fun e w' => e = .returned (.bool true) ∧ Below w.heap.size w w' := by
  have hCh := changed_c n0 A ln lc l w h hn0 hok hln
  have hA := fun X => awake12_any X
  clear h hok
  go_enter Try.func3, Try.ntmps3
  go_upto_region 2 with (go_at_call 4; refine hCh.mono ?_; rintro e w1 ⟨fb, mn, F, rfl, hP⟩; have HP := Lib.hid hP; clear hP hCh)
  obtain ⟨fs, hfs⟩ : ∃ fs, fs = [funL F 0, funL F 1] := ⟨_, rfl⟩
  have hc : ∀ d ∈ fs, ChOk d := fun d hd => by
    rw [hfs] at hd
    simp only [List.mem_cons, List.not_mem_nil, or_false] at hd
    rcases hd with rfl | rfl
    · exact HP.out.chOk (by omega)
    · exact HP.out.chOk (by omega)
  have hlen : fs.length = 2 := by rw [hfs]; rfl
  have hF : CFs w1.heap.size w1 (.slice (some ⟨fb, 0, none⟩) 2 2) fs := by rw [hfs]; exact HP.out.cfs
  have hBw := HP.out.b
  generalize hY : World.alloc _ _ = Y
  have h0Y : Y.heap[w1.heap.size]? = some (.cells #[.slice (some ⟨fb, 0, none⟩) 2 2, .int .i64 mn] 25 (0, 0)) := by rw [← hY]; exact heap_alloc_new w1 _
  have hbY : Below w1.heap.size w1 Y := by rw [← hY]; exact (Below.refl _ _).alloc (Nat.le_refl _) _
  have hzY : w1.heap.size < Y.heap.size := gr_in h0Y
  have HC : Hid (∀ X, Below Y.heap.size Y X → (X.cell? ⟨w1.heap.size, 0, none⟩ = some (.slice (some ⟨fb, 0, none⟩) 2 2) ∧ X.cell? ⟨w1.heap.size, 1, none⟩ = some (.int .i64 mn)) ∧ CFs X.heap.size X (.slice (some ⟨fb, 0, none⟩) 2 2) fs) := Lib.hid fun X hX => by
    have h0 := (hX.block _ hzY).trans h0Y
    exact ⟨⟨Lib.cell_of_heap h0 0, Lib.cell_of_heap h0 1⟩, ((hF.keep hbY).keep (hX.mono (Nat.le_of_lt hzY))).mono (Nat.le_trans (Nat.le_of_lt hzY) hX.size)⟩
  have HBY : Hid (Below w.heap.size w Y) := Lib.hid (hBw.trans (hbY.mono hBw.size))
  have hPr := prog_c w1.heap.size (some ⟨fb, 0, none⟩) 2 2 mn fs Y (hF.keep hbY) (Nat.le_of_lt hzY) (fun d hd => (hc d hd).fs) (fun X d V hX hd hV Z hZ hO => stands_c w1.heap.size V d.2 Z (hV.keep (hZ.mono (Nat.le_trans (Nat.le_of_lt hzY) hX.size))) (hc d hd).fs (Nat.le_trans (Nat.le_of_lt hzY) (Nat.le_trans hX.size hZ.size)) (ChOk.st hO))
  obtain ⟨pb, hpb⟩ : ∃ pb, pb = w1.heap.size := ⟨_, rfl⟩
  rw [← hpb] at HC ⊢
  obtain ⟨⟨x0, x1⟩, -⟩ := HC.out Y (Below.refl _ _)
  have Hc := Lib.hid hc
  have Hlen := Lib.hid hlen
  clear hY h0Y hbY hzY hF hBw HP hfs hc hlen hpb
  go_upto_region 3 with (go_at_call 5; refine hPr.mono ?_; rintro e w2 ⟨r, i, rfl, h2, hp⟩; have HP := Lib.hid hp; have H2 := Lib.hid h2; clear hPr h2 hp x0 x1)
  by_cases r0 : r = 0
  · have hPO := HP.out r0
    have hPF := chProgF Hc.out hPO
    have hsz := chProg_len (mn := mn) Hc.out Hlen.out
    obtain ⟨hl, hin⟩ := progF_more hPF
    obtain ⟨bl, hbl⟩ : ∃ bl, bl = cdProg mn fs := ⟨_, rfl⟩
    have hbk : decodeQ bl = some (mn, fs) := by rw [hbl]; exact decodeQ_back mn fs hPF (by omega)
    have hbl2 : bl.length ≤ 1099511627776 := by rw [hbl]; omega
    have hD := fun X => decode_c bl hbl2 X
    rw [hbk] at hD
    have hE : ∀ (X : World), CFs X.heap.size X (.slice (some ⟨fb, 0, none⟩) 2 2) fs → Calls Try.prog 7 #[.agg #[.slice (some ⟨fb, 0, none⟩) 2 2, .int .i64 mn]] X fun e w' => e = .returned (.string ⟨bl.toArray⟩) ∧ Below X.heap.size X w' := fun X h => by
      rw [hbl]
      exact encode_c mn fs _ 2 2 X h (by decide) (fun d hd => ⟨(hl.2 d hd).1, fun x hx => ⟨hin d hd x hx, (hl.2 d hd).2.1 x hx⟩, (hl.2 d hd).2.2⟩) (by omega)
    have hR : ∀ (X : World), CFs X.heap.size X (.slice (some ⟨fb, 0, none⟩) 2 2) fs → Calls Try.prog 9 #[.agg #[.slice (some ⟨fb, 0, none⟩) 2 2, .int .i64 mn]] X fun e w' => e = .returned (.string ⟨bl.toArray⟩) ∧ Below X.heap.size X w' := fun X h => by
      rw [hbl]
      have := rencode_w X.heap.size mn fs (some ⟨fb, 0, none⟩) 2 X (by rw [Hlen.out]; exact h) (Nat.le_refl _) hl hin (by omega)
      rw [Hlen.out] at this
      exact this
    have hS : ∀ (X : World) (A2 : Option Addr) (c2 : Nat), CFs X.heap.size X (.slice (some ⟨fb, 0, none⟩) 2 2) fs → CFs X.heap.size X (.slice A2 2 c2) fs → Calls Try.prog 10 #[.agg #[.slice (some ⟨fb, 0, none⟩) 2 2, .int .i64 mn], .agg #[.slice A2 2 c2, .int .i64 mn]] X fun e w' => e = .returned (.bool true) ∧ Below X.heap.size X w' := fun X A2 c2 h1 h2 => by
      have := sameProg_t X.heap.size mn fs (some ⟨fb, 0, none⟩) A2 2 c2 X (by rw [Hlen.out]; exact h1) (by rw [Hlen.out]; exact h2) hl (Nat.le_refl _)
      rw [Hlen.out] at this
      exact this
    have HS := Lib.hid hS
    have HR := Lib.hid hR
    have HE := Lib.hid hE
    obtain ⟨T, hT⟩ : ∃ T : ByteArray, T = ⟨bl.toArray⟩ := ⟨_, rfl⟩
    rw [← hT] at hD HR HE
    subst r0
    clear hPO hPF hsz hl hin hbl hbk hbl2 hT hS hR hE HP Hc
    go_upto_region 7 with (first
      | (go_at_call 6; refine (hA _).mono ?_; rintro e w3 ⟨rfl, h3⟩; have H3 := Lib.hid (H2.out.trans (h3.mono H2.out.size)); obtain ⟨⟨x0, x1⟩, hcf⟩ := HC.out w3 H3.out; have hE1 := HE.out w3 hcf; clear h3 hcf)
      | (go_at_call 7; refine hE1.mono ?_; rintro e w4 ⟨rfl, h4⟩; have H4 := Lib.hid (H3.out.trans (h4.mono H3.out.size)); clear h4 hE1 x0 x1)
      | (go_at_call 8; refine (hD _).mono ?_; rintro e w5 ⟨hd, h5⟩; obtain ⟨v, rfl, hf⟩ := hd; obtain ⟨A2, c2, hv⟩ := hf.slice; rw [Hlen.out] at hv; subst hv; have F2 := Lib.hid hf.cfs; have H5 := Lib.hid (H4.out.trans (h5.mono H4.out.size)); clear h5 hf hD))
    generalize hY2 : World.alloc _ _ = Y2
    have h0Y2 : Y2.heap[w5.heap.size]? = some (.cells #[.slice A2 2 c2, .int .i64 mn] 25 (0, 0)) := by rw [← hY2]; exact heap_alloc_new w5 _
    have hbY2 : Below w5.heap.size w5 Y2 := by rw [← hY2]; exact (Below.refl _ _).alloc (Nat.le_refl _) _
    have hzY2 : w5.heap.size < Y2.heap.size := gr_in h0Y2
    have h6 : Below Y.heap.size Y Y2 := H5.out.trans (hbY2.mono H5.out.size)
    have H6 := Lib.hid h6
    have HC2 : Hid (∀ X, Below Y2.heap.size Y2 X → (X.cell? ⟨pb, 0, none⟩ = some (.slice (some ⟨fb, 0, none⟩) 2 2) ∧ X.cell? ⟨pb, 1, none⟩ = some (.int .i64 mn) ∧ X.cell? ⟨w5.heap.size, 0, none⟩ = some (.slice A2 2 c2) ∧ X.cell? ⟨w5.heap.size, 1, none⟩ = some (.int .i64 mn)) ∧ CFs X.heap.size X (.slice (some ⟨fb, 0, none⟩) 2 2) fs ∧ CFs X.heap.size X (.slice A2 2 c2) fs) := Lib.hid fun X hX => by
      have h0 := (hX.block _ hzY2).trans h0Y2
      obtain ⟨⟨a1, a2⟩, a3⟩ := HC.out X (h6.trans (hX.mono h6.size))
      exact ⟨⟨a1, a2, Lib.cell_of_heap h0 0, Lib.cell_of_heap h0 1⟩, a3, ((F2.out.keep hbY2).keep (hX.mono (Nat.le_of_lt hzY2))).mono (Nat.le_trans (Nat.le_of_lt hzY2) hX.size)⟩
    obtain ⟨qb, hqb⟩ : ∃ qb, qb = w5.heap.size := ⟨_, rfl⟩
    rw [← hqb] at HC2 ⊢
    obtain ⟨⟨x0, x1, -, -⟩, hcf, -⟩ := HC2.out Y2 (Below.refl _ _)
    have hR1 := HR.out Y2 hcf
    clear hY2 h0Y2 hbY2 hzY2 h6 hcf hqb F2
    go_wp2_with (first
      | (go_at_call 9; refine hR1.mono ?_; rintro e w6 ⟨rfl, h6⟩; have H7 := Lib.hid h6; clear x0 x1; obtain ⟨⟨x0, x1, z0, z1⟩, e1, e2⟩ := HC2.out w6 h6; have hS1 := HS.out w6 A2 c2 e1 e2; clear h6 hR1 e1 e2)
      | (go_at_call 10; refine hS1.mono ?_; rintro e w7 ⟨rfl, h7⟩; have H8 := Lib.hid (H7.out.trans (h7.mono H7.out.size)); clear h7 hS1))
    go_ret
    exact ⟨by first | rfl | simp, HBY.out.trans ((H6.out.trans (H8.out.mono H6.out.size)).mono HBY.out.size)⟩
  · have dr : (r == 0) = false := by simp [r0]
    have dr2 : (r != 0) = true := by simp [r0]
    clear HP
    go_wp2_with (first
      | (go_at_call 6; refine (hA _).mono ?_; rintro e w3 ⟨rfl, h3⟩; have H3 := Lib.hid (H2.out.trans (h3.mono H2.out.size)); have H2 := H3; clear h3))
    go_ret
    exact ⟨rfl, HBY.out.trans (H2.out.mono HBY.out.size)⟩
end Go.Proofs.Ythhjhdmdfneegaa
