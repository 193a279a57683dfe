/-
  An expression, printed.
-/
import Derived.Test.YtnnjpegeefoecaaGreatDoorJm37
import Derived.Deep.RegionWith
namespace Go.Proofs.YtnnjpegeefoecaaGreatDoor
set_option linter.unusedVariables false
set_option linter.unusedSimpArgs false
open Go.RowKit

theorem signA_size (op : Int) : (signA op).size ≤ 3 := by
  unfold signA nameAt
  split
  · decide
  · have : ∀ k : Nat, (signL.getD k ⟨#[]⟩).size ≤ 3 := fun k => by
      by_cases hk : k < 25
      · have h : ∀ k : Fin 25, (signL.getD k.val ⟨#[]⟩).size ≤ 3 := by decide +kernel
        exact h ⟨k, hk⟩
      · have : signL.length ≤ k := by have : signL.length = 25 := rfl; omega
        rw [List.getD_eq_getElem?_getD, List.getElem?_eq_none this]
        decide
    exact this _
theorem toL_size (s : ByteArray) : s.data.toList.length = s.size := by simp
set_option maxRecDepth 100000 in
set_option maxHeartbeats 8000000 in
theorem expr_1 (B b : Nat) (l : List UInt8) (K : Option Addr) (c : Nat) (a t o n : Int) (s : ByteArray) (kids : List Ex) (w : World) (h : IsPr B b (Lib.byteCells l) w) (hK : RdEs w (· < B) K 0 kids) (hS : smallEs kids) (HE : ∀ e ∈ kids, ExPr e) (hn : kids.length ≤ 1099511627776)
    (hlen : l.length + (prK 1 o n s.data.toList (prEs kids)).length ≤ 1099511627776) (hBw : B ≤ w.heap.size) :
    Calls Tryz.prog 195 #[.pointer (some ⟨b, 0, none⟩), .agg #[.int .i64 1, .int .i64 a, .int .i64 t, .int .i64 o, .int .i64 n, .string s, .slice K kids.length (kids.length + c)]] w (PrS B b (l ++ prK 1 o n s.data.toList (prEs kids)) w) := by
  have hp : prK 1 o n s.data.toList (prEs kids) = digM n := by simp [prK]
  rw [hp] at hlen ⊢
  clear hp
  obtain ⟨w1, hw1, hbb, hz1, hc1⟩ := t_one_al w #[.int .i64 1, .int .i64 a, .int .i64 t, .int .i64 o, .int .i64 n, .string s, .slice K kids.length (kids.length + c)] 160
  have hB1 : Below B w w1 := hbb.mono hBw
  have hp1 := h.below hbb
  have hK1 : RdEs w1 (· < B) K 0 kids := RdEs.keep (w' := w1) (fun q hq => hB1.cell hq) _ _ _ hK
  have hk1 := KeepT.of_below hbb
  have hz : B ≤ w1.heap.size := by omega
  obtain ⟨c0, c1, c2, c3, c4, c5, c6, cf⟩ := t0_cells7 hc1
  have HB1 := Lib.hid (And.intro hB1 hk1)
  have HD := fun w' => digits_any n (u64M n) (u64M_wrap n) (u64M_lt n) w'
  have HS := fun w2 (hb : Below w1.heap.size w1 w2) => say1 B b l ⟨(digM n).toArray⟩ w2 (hp1.below hb) (by simpa using hlen) (Nat.le_trans hz hb.size)
  simp only at HS
  unfold digM at HS ⊢
  clear hp1 hK1 hS HE hn hlen
  clear h hK hbb hz1 hk1 hB1
  go_enter Tryz.func195, Tryz.ntmps195
  go_upto_region 1 with fail
  rw [← hw1]
  clear hw1
  go_wp2_with (first
    | (go_at_call 161; refine (HD _).mono ?_; rintro e w2 ⟨rfl, hb⟩; have hS2 := HS w2 hb; have HB2 := Lib.hid (And.intro (HB1.out.1.trans (hb.mono hz)) (HB1.out.2.trans (KeepT.of_below hb))); clear hb HS)
    | (go_at_call 91; refine hS2.mono ?_; rintro e w3 ⟨rfl, hp, hb, hkp⟩; have HQ := Lib.hid hp; have HB3 := Lib.hid (And.intro (HB2.out.1.trans hb) (HB2.out.2.trans hkp)); clear hp hb hkp hS2))
  go_end0
  refine ⟨rfl, ?_, HB3.out.1, HB3.out.2⟩
  exact HQ.out
set_option maxRecDepth 100000 in
set_option maxHeartbeats 8000000 in
theorem expr_2 (B b : Nat) (l : List UInt8) (K : Option Addr) (c : Nat) (a t o n : Int) (s : ByteArray) (kids : List Ex) (w : World) (h : IsPr B b (Lib.byteCells l) w) (hK : RdEs w (· < B) K 0 kids) (hS : smallEs kids) (HE : ∀ e ∈ kids, ExPr e) (hn : kids.length ≤ 1099511627776)
    (hlen : l.length + (prK 2 o n s.data.toList (prEs kids)).length ≤ 1099511627776) (hBw : B ≤ w.heap.size) :
    Calls Tryz.prog 195 #[.pointer (some ⟨b, 0, none⟩), .agg #[.int .i64 2, .int .i64 a, .int .i64 t, .int .i64 o, .int .i64 n, .string s, .slice K kids.length (kids.length + c)]] w (PrS B b (l ++ prK 2 o n s.data.toList (prEs kids)) w) := by
  have hp : prK 2 o n s.data.toList (prEs kids) = truthB n := by simp [prK]
  rw [hp] at hlen ⊢
  clear hp
  obtain ⟨w1, hw1, hbb, hz1, hc1⟩ := t_one_al w #[.int .i64 2, .int .i64 a, .int .i64 t, .int .i64 o, .int .i64 n, .string s, .slice K kids.length (kids.length + c)] 160
  have hB1 : Below B w w1 := hbb.mono hBw
  have hp1 := h.below hbb
  have hK1 : RdEs w1 (· < B) K 0 kids := RdEs.keep (w' := w1) (fun q hq => hB1.cell hq) _ _ _ hK
  have hk1 := KeepT.of_below hbb
  have hz : B ≤ w1.heap.size := by omega
  obtain ⟨c0, c1, c2, c3, c4, c5, c6, cf⟩ := t0_cells7 hc1
  have HB1 := Lib.hid (And.intro hB1 hk1)
  have HT := fun w' => truth_any n w'
  have HS := say1 B b l ⟨(truthB n).toArray⟩ w1 hp1 (by simpa using hlen) hz
  simp only at HS
  obtain ⟨tv, htv⟩ : ∃ tv, tv = truthB n := ⟨_, rfl⟩
  rw [← htv] at HT HS ⊢
  clear htv hp1 hK1 hS HE hn hlen
  clear h hK hbb hz1 hk1 hB1
  go_enter Tryz.func195, Tryz.ntmps195
  go_upto_region 1 with fail
  rw [← hw1]
  clear hw1
  go_wp2_with (first
    | (go_at_call 214; refine (HT _).mono ?_; rintro e w' ⟨rfl, rfl⟩)
    | (go_at_call 91; refine HS.mono ?_; rintro e w3 ⟨rfl, hp, hb, hkp⟩; have HQ := Lib.hid hp; have HB3 := Lib.hid (And.intro (HB1.out.1.trans hb) (HB1.out.2.trans hkp)); clear hp hb hkp HS))
  go_end0
  refine ⟨rfl, ?_, HB3.out.1, HB3.out.2⟩
  exact HQ.out
set_option maxRecDepth 100000 in
set_option maxHeartbeats 8000000 in
theorem expr_3 (B b : Nat) (l : List UInt8) (K : Option Addr) (c : Nat) (a t o n : Int) (s : ByteArray) (kids : List Ex) (w : World) (h : IsPr B b (Lib.byteCells l) w) (hK : RdEs w (· < B) K 0 kids) (hS : smallEs kids) (HE : ∀ e ∈ kids, ExPr e) (hn : kids.length ≤ 1099511627776)
    (hlen : l.length + (prK 3 o n s.data.toList (prEs kids)).length ≤ 1099511627776) (hBw : B ≤ w.heap.size) :
    Calls Tryz.prog 195 #[.pointer (some ⟨b, 0, none⟩), .agg #[.int .i64 3, .int .i64 a, .int .i64 t, .int .i64 o, .int .i64 n, .string s, .slice K kids.length (kids.length + c)]] w (PrS B b (l ++ prK 3 o n s.data.toList (prEs kids)) w) := by
  have hp : prK 3 o n s.data.toList (prEs kids) = s.data.toList := by simp [prK]
  rw [hp] at hlen ⊢
  clear hp
  obtain ⟨w1, hw1, hbb, hz1, hc1⟩ := t_one_al w #[.int .i64 3, .int .i64 a, .int .i64 t, .int .i64 o, .int .i64 n, .string s, .slice K kids.length (kids.length + c)] 160
  have hB1 : Below B w w1 := hbb.mono hBw
  have hp1 := h.below hbb
  have hK1 : RdEs w1 (· < B) K 0 kids := RdEs.keep (w' := w1) (fun q hq => hB1.cell hq) _ _ _ hK
  have hk1 := KeepT.of_below hbb
  have hz : B ≤ w1.heap.size := by omega
  obtain ⟨c0, c1, c2, c3, c4, c5, c6, cf⟩ := t0_cells7 hc1
  have HB1 := Lib.hid (And.intro hB1 hk1)
  have HS := say1 B b l s w1 hp1 (by exact hlen) hz
  clear hp1 hK1 hS HE hn hlen
  clear h hK hbb hz1 hk1 hB1
  go_enter Tryz.func195, Tryz.ntmps195
  go_upto_region 1 with fail
  rw [← hw1]
  clear hw1
  go_wp2_with (go_at_call 91; refine HS.mono ?_; rintro e w3 ⟨rfl, hp, hb, hkp⟩; have HQ := Lib.hid hp; have HB3 := Lib.hid (And.intro (HB1.out.1.trans hb) (HB1.out.2.trans hkp)); clear hp hb hkp HS)
  go_end0
  refine ⟨rfl, ?_, HB3.out.1, HB3.out.2⟩
  exact HQ.out
set_option maxRecDepth 100000 in
set_option maxHeartbeats 8000000 in
theorem expr_4 (B b : Nat) (l : List UInt8) (K : Option Addr) (c : Nat) (a t o n : Int) (s : ByteArray) (kids : List Ex) (w : World) (h : IsPr B b (Lib.byteCells l) w) (hK : RdEs w (· < B) K 0 kids) (hS : smallEs kids) (HE : ∀ e ∈ kids, ExPr e) (hn : kids.length ≤ 1099511627776)
    (hlen : l.length + (prK 4 o n s.data.toList (prEs kids)).length ≤ 1099511627776) (hBw : B ≤ w.heap.size) :
    Calls Tryz.prog 195 #[.pointer (some ⟨b, 0, none⟩), .agg #[.int .i64 4, .int .i64 a, .int .i64 t, .int .i64 o, .int .i64 n, .string s, .slice K kids.length (kids.length + c)]] w (PrS B b (l ++ prK 4 o n s.data.toList (prEs kids)) w) := by
  have hp : prK 4 o n s.data.toList (prEs kids) = lsP ([40] ++ sgnB o) ((prEs kids).take 1) [41] := by simp [prK]
  rw [hp] at hlen ⊢
  clear hp
  obtain ⟨w1, hw1, hbb, hz1, hc1⟩ := t_one_al w #[.int .i64 4, .int .i64 a, .int .i64 t, .int .i64 o, .int .i64 n, .string s, .slice K kids.length (kids.length + c)] 160
  have hB1 : Below B w w1 := hbb.mono hBw
  have hp1 := h.below hbb
  have hK1 : RdEs w1 (· < B) K 0 kids := RdEs.keep (w' := w1) (fun q hq => hB1.cell hq) _ _ _ hK
  have hk1 := KeepT.of_below hbb
  have hz : B ≤ w1.heap.size := by omega
  obtain ⟨c0, c1, c2, c3, c4, c5, c6, cf⟩ := t0_cells7 hc1
  have HB1 := Lib.hid (And.intro hB1 hk1)
  have hU := fun w' => upTo_any K kids.length c hn w'
  have hd1 : Below w1.heap.size w1 w1.drew := (Below.refl _ _).drew
  have HSg := fun w' => tsign_any o w'
  have hsz := signA_size o
  unfold sgnB at hlen ⊢
  obtain ⟨sg, hsg⟩ : ∃ sg, sg = signA o := ⟨_, rfl⟩
  rw [← hsg] at HSg hlen hsz ⊢
  have hL := fun A1 (hA : 0 < kids.length → A1 = K) => list_any B b l (⟨#[40]⟩ ++ sg) ⟨#[41]⟩ A1 (kids.take 1) (kids.length + c) w1.drew (hp1.below hd1) (first_of (RdEs.keep (w := w1) (w' := w1.drew) (fun q _ => rfl) _ _ _ hK1) hA) (smallEs_sub hS (fun e he => List.mem_of_mem_take he)) (fun e he => HE e (List.mem_of_mem_take he)) (by rw [List.length_take]; omega) (by rw [app_bytes, prEs_take]; exact hlen) hz
  rw [app_bytes, prEs_take, List.length_take] at hL
  simp only at hL
  have HB1 : Hid (Below B w w1.drew ∧ KeepT w w1.drew) := Lib.hid ⟨HB1.out.1.trans (hd1.mono hz), HB1.out.2.trans (KeepT.of_below hd1)⟩
  clear hd1 hsg hp1 hK1 hS HE hn hlen
  clear h hK hbb hz1 hk1 hB1
  go_enter Tryz.func195, Tryz.ntmps195
  go_upto_region 1 with fail
  rw [← hw1]
  clear hw1
  go_upto_region 9 with fail
  go_region_with (first
    | (go_at_call 216; refine (HSg _).mono ?_; rintro e w' ⟨rfl, rfl⟩)
    | (go_at_call 217; refine (hU _).mono ?_; rintro e w' ⟨⟨A1, rfl, hA⟩, rfl⟩; have HL1 := Lib.hid (hL A1 hA); clear hA)
    | (go_at_call 215; refine HL1.out.mono ?_; rintro e w3 ⟨rfl, hp, hb, hkp⟩; have HQ := Lib.hid hp; have HB3 := Lib.hid (And.intro (HB1.out.1.trans hb) (HB1.out.2.trans hkp)); clear hp hb hkp HL1))
  all_goals
    go_wp2
    go_end0
    refine ⟨rfl, ?_, HB3.out.1, HB3.out.2⟩
    exact HQ.out
set_option maxRecDepth 100000 in
set_option maxHeartbeats 8000000 in
theorem expr_5 (B b : Nat) (l : List UInt8) (K : Option Addr) (c : Nat) (a t o n : Int) (s : ByteArray) (kids : List Ex) (w : World) (h : IsPr B b (Lib.byteCells l) w) (hK : RdEs w (· < B) K 0 kids) (hS : smallEs kids) (HE : ∀ e ∈ kids, ExPr e) (hn : kids.length ≤ 1099511627776)
    (hlen : l.length + (prK 5 o n s.data.toList (prEs kids)).length ≤ 1099511627776) (hBw : B ≤ w.heap.size) :
    Calls Tryz.prog 195 #[.pointer (some ⟨b, 0, none⟩), .agg #[.int .i64 5, .int .i64 a, .int .i64 t, .int .i64 o, .int .i64 n, .string s, .slice K kids.length (kids.length + c)]] w (PrS B b (l ++ prK 5 o n s.data.toList (prEs kids)) w) := by
  have hp : prK 5 o n s.data.toList (prEs kids) = pairP (prEs kids) (sgnB o) := by simp [prK]
  rw [hp] at hlen ⊢
  clear hp
  obtain ⟨w1, hw1, hbb, hz1, hc1⟩ := t_one_al w #[.int .i64 5, .int .i64 a, .int .i64 t, .int .i64 o, .int .i64 n, .string s, .slice K kids.length (kids.length + c)] 160
  have hB1 : Below B w w1 := hbb.mono hBw
  have hp1 := h.below hbb
  have hK1 : RdEs w1 (· < B) K 0 kids := RdEs.keep (w' := w1) (fun q hq => hB1.cell hq) _ _ _ hK
  have hk1 := KeepT.of_below hbb
  have hz : B ≤ w1.heap.size := by omega
  obtain ⟨c0, c1, c2, c3, c4, c5, c6, cf⟩ := t0_cells7 hc1
  have HB1 := Lib.hid (And.intro hB1 hk1)
  have hd1 : Below w1.heap.size w1 w1.drew := (Below.refl _ _).drew
  have HSg := fun w' => tsign_any o w'
  have hsz := signA_size o
  unfold sgnB at hlen ⊢
  obtain ⟨sg, hsg⟩ : ∃ sg, sg = signA o := ⟨_, rfl⟩
  rw [← hsg] at HSg hlen hsz ⊢
  have hL := pair_any B b l K kids c sg (by omega) w1.drew (hp1.below hd1) (RdEs.keep (w := w1) (w' := w1.drew) (fun q _ => rfl) _ _ _ hK1) hS HE hn hlen hz
  have HB1 : Hid (Below B w w1.drew ∧ KeepT w w1.drew) := Lib.hid ⟨HB1.out.1.trans (hd1.mono hz), HB1.out.2.trans (KeepT.of_below hd1)⟩
  clear hd1 hsg hp1 hK1 hS HE hn hlen
  clear h hK hbb hz1 hk1 hB1
  go_enter Tryz.func195, Tryz.ntmps195
  go_upto_region 1 with fail
  rw [← hw1]
  clear hw1
  go_upto_region 11 with fail
  go_region_with (first
    | (go_at_call 216; refine (HSg _).mono ?_; rintro e w' ⟨rfl, rfl⟩)
    | (go_at_call 218; refine hL.mono ?_; rintro e w3 ⟨rfl, hp, hb, hkp⟩; have HQ := Lib.hid hp; have HB3 := Lib.hid (And.intro (HB1.out.1.trans hb) (HB1.out.2.trans hkp)); clear hp hb hkp hL))
  all_goals
    go_wp2
    go_end0
    refine ⟨rfl, ?_, HB3.out.1, HB3.out.2⟩
    exact HQ.out
set_option maxRecDepth 100000 in
set_option maxHeartbeats 8000000 in
theorem expr_6 (B b : Nat) (l : List UInt8) (K : Option Addr) (c : Nat) (a t o n : Int) (s : ByteArray) (kids : List Ex) (w : World) (h : IsPr B b (Lib.byteCells l) w) (hK : RdEs w (· < B) K 0 kids) (hS : smallEs kids) (HE : ∀ e ∈ kids, ExPr e) (hn : kids.length ≤ 1099511627776)
    (hlen : l.length + (prK 6 o n s.data.toList (prEs kids)).length ≤ 1099511627776) (hBw : B ≤ w.heap.size) :
    Calls Tryz.prog 195 #[.pointer (some ⟨b, 0, none⟩), .agg #[.int .i64 6, .int .i64 a, .int .i64 t, .int .i64 o, .int .i64 n, .string s, .slice K kids.length (kids.length + c)]] w (PrS B b (l ++ prK 6 o n s.data.toList (prEs kids)) w) := by
  have hp : prK 6 o n s.data.toList (prEs kids) = pairP (prEs kids) [38, 38] := by simp [prK]
  rw [hp] at hlen ⊢
  clear hp
  obtain ⟨w1, hw1, hbb, hz1, hc1⟩ := t_one_al w #[.int .i64 6, .int .i64 a, .int .i64 t, .int .i64 o, .int .i64 n, .string s, .slice K kids.length (kids.length + c)] 160
  have hB1 : Below B w w1 := hbb.mono hBw
  have hp1 := h.below hbb
  have hK1 : RdEs w1 (· < B) K 0 kids := RdEs.keep (w' := w1) (fun q hq => hB1.cell hq) _ _ _ hK
  have hk1 := KeepT.of_below hbb
  have hz : B ≤ w1.heap.size := by omega
  obtain ⟨c0, c1, c2, c3, c4, c5, c6, cf⟩ := t0_cells7 hc1
  have HB1 := Lib.hid (And.intro hB1 hk1)
  have hL := pair_any B b l K kids c ⟨#[38, 38]⟩ (by decide) w1 hp1 hK1 hS HE hn hlen hz
  simp only at hL
  clear hp1 hK1 hS HE hn hlen
  clear h hK hbb hz1 hk1 hB1
  go_enter Tryz.func195, Tryz.ntmps195
  go_upto_region 1 with fail
  rw [← hw1]
  clear hw1
  go_wp2_with (go_at_call 218; refine hL.mono ?_; rintro e w3 ⟨rfl, hp, hb, hkp⟩; have HQ := Lib.hid hp; have HB3 := Lib.hid (And.intro (HB1.out.1.trans hb) (HB1.out.2.trans hkp)); clear hp hb hkp hL)
  go_end0
  refine ⟨rfl, ?_, HB3.out.1, HB3.out.2⟩
  exact HQ.out
set_option maxRecDepth 100000 in
set_option maxHeartbeats 8000000 in
theorem expr_7 (B b : Nat) (l : List UInt8) (K : Option Addr) (c : Nat) (a t o n : Int) (s : ByteArray) (kids : List Ex) (w : World) (h : IsPr B b (Lib.byteCells l) w) (hK : RdEs w (· < B) K 0 kids) (hS : smallEs kids) (HE : ∀ e ∈ kids, ExPr e) (hn : kids.length ≤ 1099511627776)
    (hlen : l.length + (prK 7 o n s.data.toList (prEs kids)).length ≤ 1099511627776) (hBw : B ≤ w.heap.size) :
    Calls Tryz.prog 195 #[.pointer (some ⟨b, 0, none⟩), .agg #[.int .i64 7, .int .i64 a, .int .i64 t, .int .i64 o, .int .i64 n, .string s, .slice K kids.length (kids.length + c)]] w (PrS B b (l ++ prK 7 o n s.data.toList (prEs kids)) w) := by
  have hp : prK 7 o n s.data.toList (prEs kids) = pairP (prEs kids) [124, 124] := by simp [prK]
  rw [hp] at hlen ⊢
  clear hp
  obtain ⟨w1, hw1, hbb, hz1, hc1⟩ := t_one_al w #[.int .i64 7, .int .i64 a, .int .i64 t, .int .i64 o, .int .i64 n, .string s, .slice K kids.length (kids.length + c)] 160
  have hB1 : Below B w w1 := hbb.mono hBw
  have hp1 := h.below hbb
  have hK1 : RdEs w1 (· < B) K 0 kids := RdEs.keep (w' := w1) (fun q hq => hB1.cell hq) _ _ _ hK
  have hk1 := KeepT.of_below hbb
  have hz : B ≤ w1.heap.size := by omega
  obtain ⟨c0, c1, c2, c3, c4, c5, c6, cf⟩ := t0_cells7 hc1
  have HB1 := Lib.hid (And.intro hB1 hk1)
  have hL := pair_any B b l K kids c ⟨#[124, 124]⟩ (by decide) w1 hp1 hK1 hS HE hn hlen hz
  simp only at hL
  clear hp1 hK1 hS HE hn hlen
  clear h hK hbb hz1 hk1 hB1
  go_enter Tryz.func195, Tryz.ntmps195
  go_upto_region 1 with fail
  rw [← hw1]
  clear hw1
  go_wp2_with (go_at_call 218; refine hL.mono ?_; rintro e w3 ⟨rfl, hp, hb, hkp⟩; have HQ := Lib.hid hp; have HB3 := Lib.hid (And.intro (HB1.out.1.trans hb) (HB1.out.2.trans hkp)); clear hp hb hkp hL)
  go_end0
  refine ⟨rfl, ?_, HB3.out.1, HB3.out.2⟩
  exact HQ.out
set_option maxRecDepth 100000 in
set_option maxHeartbeats 8000000 in
theorem expr_8 (B b : Nat) (l : List UInt8) (K : Option Addr) (c : Nat) (a t o n : Int) (s : ByteArray) (kids : List Ex) (w : World) (h : IsPr B b (Lib.byteCells l) w) (hK : RdEs w (· < B) K 0 kids) (hS : smallEs kids) (HE : ∀ e ∈ kids, ExPr e) (hn : kids.length ≤ 1099511627776)
    (hlen : l.length + (prK 8 o n s.data.toList (prEs kids)).length ≤ 1099511627776) (hBw : B ≤ w.heap.size) :
    Calls Tryz.prog 195 #[.pointer (some ⟨b, 0, none⟩), .agg #[.int .i64 8, .int .i64 a, .int .i64 t, .int .i64 o, .int .i64 n, .string s, .slice K kids.length (kids.length + c)]] w (PrS B b (l ++ prK 8 o n s.data.toList (prEs kids)) w) := by
  have hp : prK 8 o n s.data.toList (prEs kids) = lsP (s.data.toList ++ [40]) (prEs kids) [41] := by simp [prK]
  rw [hp] at hlen ⊢
  clear hp
  obtain ⟨w1, hw1, hbb, hz1, hc1⟩ := t_one_al w #[.int .i64 8, .int .i64 a, .int .i64 t, .int .i64 o, .int .i64 n, .string s, .slice K kids.length (kids.length + c)] 160
  have hB1 : Below B w w1 := hbb.mono hBw
  have hp1 := h.below hbb
  have hK1 : RdEs w1 (· < B) K 0 kids := RdEs.keep (w' := w1) (fun q hq => hB1.cell hq) _ _ _ hK
  have hk1 := KeepT.of_below hbb
  have hz : B ≤ w1.heap.size := by omega
  obtain ⟨c0, c1, c2, c3, c4, c5, c6, cf⟩ := t0_cells7 hc1
  have HB1 := Lib.hid (And.intro hB1 hk1)
  have hL := list_any B b l (s ++ ⟨#[40]⟩) ⟨#[41]⟩ K kids (kids.length + c) w1 hp1 hK1 hS HE hn (by rw [app_bytes]; exact hlen) hz
  rw [app_bytes] at hL
  have hsz : s.size ≤ 1099511627776 := by rw [← toL_size]; unfold lsP at hlen; simp only [List.length_append] at hlen; omega
  simp only at hL
  clear hp1 hK1 hS HE hn hlen
  clear h hK hbb hz1 hk1 hB1
  go_enter Tryz.func195, Tryz.ntmps195
  go_upto_region 1 with fail
  rw [← hw1]
  clear hw1
  go_wp2_with (go_at_call 215; refine hL.mono ?_; rintro e w3 ⟨rfl, hp, hb, hkp⟩; have HQ := Lib.hid hp; have HB3 := Lib.hid (And.intro (HB1.out.1.trans hb) (HB1.out.2.trans hkp)); clear hp hb hkp hL)
  go_end0
  refine ⟨rfl, ?_, HB3.out.1, HB3.out.2⟩
  exact HQ.out
set_option maxRecDepth 100000 in
set_option maxHeartbeats 8000000 in
theorem expr_9 (B b : Nat) (l : List UInt8) (K : Option Addr) (c : Nat) (a t o n : Int) (s : ByteArray) (kids : List Ex) (w : World) (h : IsPr B b (Lib.byteCells l) w) (hK : RdEs w (· < B) K 0 kids) (hS : smallEs kids) (HE : ∀ e ∈ kids, ExPr e) (hn : kids.length ≤ 1099511627776)
    (hlen : l.length + (prK 9 o n s.data.toList (prEs kids)).length ≤ 1099511627776) (hBw : B ≤ w.heap.size) :
    Calls Tryz.prog 195 #[.pointer (some ⟨b, 0, none⟩), .agg #[.int .i64 9, .int .i64 a, .int .i64 t, .int .i64 o, .int .i64 n, .string s, .slice K kids.length (kids.length + c)]] w (PrS B b (l ++ prK 9 o n s.data.toList (prEs kids)) w) := by
  have hp : prK 9 o n s.data.toList (prEs kids) = lsP [] ((prEs kids).take 1) [] ++ lsP [91] ((prEs kids).drop 1) [93] := by simp [prK]
  rw [hp] at hlen ⊢
  clear hp
  obtain ⟨w1, hw1, hbb, hz1, hc1⟩ := t_one_al w #[.int .i64 9, .int .i64 a, .int .i64 t, .int .i64 o, .int .i64 n, .string s, .slice K kids.length (kids.length + c)] 160
  have hB1 : Below B w w1 := hbb.mono hBw
  have hp1 := h.below hbb
  have hK1 : RdEs w1 (· < B) K 0 kids := RdEs.keep (w' := w1) (fun q hq => hB1.cell hq) _ _ _ hK
  have hk1 := KeepT.of_below hbb
  have hz : B ≤ w1.heap.size := by omega
  obtain ⟨c0, c1, c2, c3, c4, c5, c6, cf⟩ := t0_cells7 hc1
  have HB1 := Lib.hid (And.intro hB1 hk1)
  have hU := fun w' => upTo_any K kids.length c hn w'
  have hF := fun w' => from_any (· < B) K kids c hn w' w1 hK1
  rw [List.length_append] at hlen
  obtain ⟨p1, hp1'⟩ : ∃ p1, p1 = lsP [] ((prEs kids).take 1) [] := ⟨_, rfl⟩
  obtain ⟨p2, hp2'⟩ : ∃ p2, p2 = lsP [91] ((prEs kids).drop 1) [93] := ⟨_, rfl⟩
  have hL := fun A1 (hA : 0 < kids.length → A1 = K) => list_any B b l ⟨#[]⟩ ⟨#[]⟩ A1 (kids.take 1) (kids.length + c) w1 hp1 (first_of hK1 hA) (smallEs_sub hS (fun e he => List.mem_of_mem_take he)) (fun e he => HE e (List.mem_of_mem_take he)) (by rw [List.length_take]; omega) (by rw [prEs_take]; show _ + (lsP [] _ []).length ≤ _; omega) hz
  rw [prEs_take, List.length_take] at hL
  simp only at hL
  rw [← hp1'] at hL hlen ⊢
  have hL2 := fun A2 x2 w2 (hp : IsPr B b (Lib.byteCells (l ++ p1)) w2) (hb : Below B w1 w2) (hR : RdEs w1 (· < B) A2 0 (kids.drop 1)) => list_any B b (l ++ p1) ⟨#[91]⟩ ⟨#[93]⟩ A2 (kids.drop 1) x2 w2 hp (RdEs.keep (w' := w2) (fun q hq => hb.cell hq) _ _ _ hR) (smallEs_sub hS (fun e he => List.mem_of_mem_drop he)) (fun e he => HE e (List.mem_of_mem_drop he)) (by rw [List.length_drop]; omega) (by rw [prEs_drop, List.length_append]; show _ + (lsP [91] _ [93]).length ≤ _; omega) (Nat.le_trans hz hb.size)
  rw [prEs_drop] at hL2
  simp only at hL2
  rw [← hp2'] at hL2 ⊢
  obtain ⟨m, hm⟩ : ∃ m, m = (kids.drop 1).length := ⟨_, rfl⟩
  rw [← hm] at hL2 hF
  have HL2 := Lib.hid hL2
  have Hc1 := Lib.hid hc1
  clear hm hL2 hp1' hp2' hp1 hK1 hS HE hn hlen
  clear h hK hbb hz1 hk1 hB1
  go_enter Tryz.func195, Tryz.ntmps195
  go_upto_region 1 with fail
  rw [← hw1]
  clear hw1
  go_upto_region 20 with (first
    | (go_at_call 217; refine (hU _).mono ?_; rintro e w' ⟨⟨A1, rfl, hA⟩, rfl⟩; have hL1 := hL A1 hA; clear hA hL)
    | (go_at_call 215; refine hL1.mono ?_; rintro e w2 ⟨rfl, hp, hb, hkp⟩; have HP2 := Lib.hid hp; obtain ⟨d0, d1, d2, d3, d4, d5, d6, df⟩ := t0_cells7 (hkp _ _ _ _ Hc1.out (by decide) (by decide)); have HB2 := Lib.hid (And.intro hb hkp); clear hp hb hkp hL1 c0 c1 c2 c3 c4 c5 c6 cf))
  go_wp2_with (first
    | (go_at_call 219; refine (hF _).mono ?_; rintro e w' ⟨⟨A2, x2, rfl, hR2⟩, rfl⟩; have hL3 := HL2.out A2 (m + x2) w2 HP2.out HB2.out.1 hR2; clear hR2 hF HL2)
    | (go_at_call 215; refine hL3.mono ?_; rintro e w3 ⟨rfl, hp, hb, hkp⟩; have HQ := Lib.hid hp; have HB3 := Lib.hid (And.intro (HB1.out.1.trans (HB2.out.1.trans hb)) (HB1.out.2.trans (HB2.out.2.trans hkp))); clear hp hb hkp hL3))
  go_end0
  refine ⟨rfl, ?_, HB3.out.1, HB3.out.2⟩
  rw [← List.append_assoc]
  exact HQ.out
set_option maxRecDepth 100000 in
set_option maxHeartbeats 8000000 in
theorem expr_10 (B b : Nat) (l : List UInt8) (K : Option Addr) (c : Nat) (a t o n : Int) (s : ByteArray) (kids : List Ex) (w : World) (h : IsPr B b (Lib.byteCells l) w) (hK : RdEs w (· < B) K 0 kids) (hS : smallEs kids) (HE : ∀ e ∈ kids, ExPr e) (hn : kids.length ≤ 1099511627776)
    (hlen : l.length + (prK 10 o n s.data.toList (prEs kids)).length ≤ 1099511627776) (hBw : B ≤ w.heap.size) :
    Calls Tryz.prog 195 #[.pointer (some ⟨b, 0, none⟩), .agg #[.int .i64 10, .int .i64 a, .int .i64 t, .int .i64 o, .int .i64 n, .string s, .slice K kids.length (kids.length + c)]] w (PrS B b (l ++ prK 10 o n s.data.toList (prEs kids)) w) := by
  have hp : prK 10 o n s.data.toList (prEs kids) = lsP [110, 101, 119, 32, 91] (prEs kids) [93] := by simp [prK]
  rw [hp] at hlen ⊢
  clear hp
  obtain ⟨w1, hw1, hbb, hz1, hc1⟩ := t_one_al w #[.int .i64 10, .int .i64 a, .int .i64 t, .int .i64 o, .int .i64 n, .string s, .slice K kids.length (kids.length + c)] 160
  have hB1 : Below B w w1 := hbb.mono hBw
  have hp1 := h.below hbb
  have hK1 : RdEs w1 (· < B) K 0 kids := RdEs.keep (w' := w1) (fun q hq => hB1.cell hq) _ _ _ hK
  have hk1 := KeepT.of_below hbb
  have hz : B ≤ w1.heap.size := by omega
  obtain ⟨c0, c1, c2, c3, c4, c5, c6, cf⟩ := t0_cells7 hc1
  have HB1 := Lib.hid (And.intro hB1 hk1)
  have hL := list_any B b l ⟨#[110, 101, 119, 32, 91]⟩ ⟨#[93]⟩ K kids (kids.length + c) w1 hp1 hK1 hS HE hn (by exact hlen) hz
  simp only at hL
  clear hp1 hK1 hS HE hn hlen
  clear h hK hbb hz1 hk1 hB1
  go_enter Tryz.func195, Tryz.ntmps195
  go_upto_region 1 with fail
  rw [← hw1]
  clear hw1
  go_wp2_with (go_at_call 215; refine hL.mono ?_; rintro e w3 ⟨rfl, hp, hb, hkp⟩; have HQ := Lib.hid hp; have HB3 := Lib.hid (And.intro (HB1.out.1.trans hb) (HB1.out.2.trans hkp)); clear hp hb hkp hL)
  go_end0
  refine ⟨rfl, ?_, HB3.out.1, HB3.out.2⟩
  exact HQ.out
set_option maxRecDepth 100000 in
set_option maxHeartbeats 8000000 in
theorem expr_11 (B b : Nat) (l : List UInt8) (K : Option Addr) (c : Nat) (a t o n : Int) (s : ByteArray) (kids : List Ex) (w : World) (h : IsPr B b (Lib.byteCells l) w) (hK : RdEs w (· < B) K 0 kids) (hS : smallEs kids) (HE : ∀ e ∈ kids, ExPr e) (hn : kids.length ≤ 1099511627776)
    (hlen : l.length + (prK 11 o n s.data.toList (prEs kids)).length ≤ 1099511627776) (hBw : B ≤ w.heap.size) :
    Calls Tryz.prog 195 #[.pointer (some ⟨b, 0, none⟩), .agg #[.int .i64 11, .int .i64 a, .int .i64 t, .int .i64 o, .int .i64 n, .string s, .slice K kids.length (kids.length + c)]] w (PrS B b (l ++ prK 11 o n s.data.toList (prEs kids)) w) := by
  have hp : prK 11 o n s.data.toList (prEs kids) = lsP [108, 101, 110, 40] ((prEs kids).take 1) [41] := by simp [prK]
  rw [hp] at hlen ⊢
  clear hp
  obtain ⟨w1, hw1, hbb, hz1, hc1⟩ := t_one_al w #[.int .i64 11, .int .i64 a, .int .i64 t, .int .i64 o, .int .i64 n, .string s, .slice K kids.length (kids.length + c)] 160
  have hB1 : Below B w w1 := hbb.mono hBw
  have hp1 := h.below hbb
  have hK1 : RdEs w1 (· < B) K 0 kids := RdEs.keep (w' := w1) (fun q hq => hB1.cell hq) _ _ _ hK
  have hk1 := KeepT.of_below hbb
  have hz : B ≤ w1.heap.size := by omega
  obtain ⟨c0, c1, c2, c3, c4, c5, c6, cf⟩ := t0_cells7 hc1
  have HB1 := Lib.hid (And.intro hB1 hk1)
  have hU := fun w' => upTo_any K kids.length c hn w'
  have hL := fun A1 (hA : 0 < kids.length → A1 = K) => list_any B b l ⟨#[108, 101, 110, 40]⟩ ⟨#[41]⟩ A1 (kids.take 1) (kids.length + c) w1 hp1 (first_of hK1 hA) (smallEs_sub hS (fun e he => List.mem_of_mem_take he)) (fun e he => HE e (List.mem_of_mem_take he)) (by rw [List.length_take]; omega) (by rw [prEs_take]; exact hlen) hz
  rw [prEs_take, List.length_take] at hL
  simp only at hL
  clear hp1 hK1 hS HE hn hlen
  clear h hK hbb hz1 hk1 hB1
  go_enter Tryz.func195, Tryz.ntmps195
  go_upto_region 1 with fail
  rw [← hw1]
  clear hw1
  go_wp2_with (first
    | (go_at_call 217; refine (hU _).mono ?_; rintro e w' ⟨⟨A1, rfl, hA⟩, rfl⟩; have hL1 := hL A1 hA; clear hA hL)
    | (go_at_call 215; refine hL1.mono ?_; rintro e w3 ⟨rfl, hp, hb, hkp⟩; have HQ := Lib.hid hp; have HB3 := Lib.hid (And.intro (HB1.out.1.trans hb) (HB1.out.2.trans hkp)); clear hp hb hkp hL1))
  go_end0
  refine ⟨rfl, ?_, HB3.out.1, HB3.out.2⟩
  exact HQ.out
set_option maxRecDepth 100000 in
set_option maxHeartbeats 8000000 in
theorem expr_12 (B b : Nat) (l : List UInt8) (K : Option Addr) (c : Nat) (a t o n : Int) (s : ByteArray) (kids : List Ex) (w : World) (h : IsPr B b (Lib.byteCells l) w) (hK : RdEs w (· < B) K 0 kids) (hS : smallEs kids) (HE : ∀ e ∈ kids, ExPr e) (hn : kids.length ≤ 1099511627776)
    (hlen : l.length + (prK 12 o n s.data.toList (prEs kids)).length ≤ 1099511627776) (hBw : B ≤ w.heap.size) :
    Calls Tryz.prog 195 #[.pointer (some ⟨b, 0, none⟩), .agg #[.int .i64 12, .int .i64 a, .int .i64 t, .int .i64 o, .int .i64 n, .string s, .slice K kids.length (kids.length + c)]] w (PrS B b (l ++ prK 12 o n s.data.toList (prEs kids)) w) := by
  have hp : prK 12 o n s.data.toList (prEs kids) = lsP [114, 111, 119, 115, 40] ((prEs kids).take 1) [41] := by simp [prK]
  rw [hp] at hlen ⊢
  clear hp
  obtain ⟨w1, hw1, hbb, hz1, hc1⟩ := t_one_al w #[.int .i64 12, .int .i64 a, .int .i64 t, .int .i64 o, .int .i64 n, .string s, .slice K kids.length (kids.length + c)] 160
  have hB1 : Below B w w1 := hbb.mono hBw
  have hp1 := h.below hbb
  have hK1 : RdEs w1 (· < B) K 0 kids := RdEs.keep (w' := w1) (fun q hq => hB1.cell hq) _ _ _ hK
  have hk1 := KeepT.of_below hbb
  have hz : B ≤ w1.heap.size := by omega
  obtain ⟨c0, c1, c2, c3, c4, c5, c6, cf⟩ := t0_cells7 hc1
  have HB1 := Lib.hid (And.intro hB1 hk1)
  have hU := fun w' => upTo_any K kids.length c hn w'
  have hL := fun A1 (hA : 0 < kids.length → A1 = K) => list_any B b l ⟨#[114, 111, 119, 115, 40]⟩ ⟨#[41]⟩ A1 (kids.take 1) (kids.length + c) w1 hp1 (first_of hK1 hA) (smallEs_sub hS (fun e he => List.mem_of_mem_take he)) (fun e he => HE e (List.mem_of_mem_take he)) (by rw [List.length_take]; omega) (by rw [prEs_take]; exact hlen) hz
  rw [prEs_take, List.length_take] at hL
  simp only at hL
  clear hp1 hK1 hS HE hn hlen
  clear h hK hbb hz1 hk1 hB1
  go_enter Tryz.func195, Tryz.ntmps195
  go_upto_region 1 with fail
  rw [← hw1]
  clear hw1
  go_wp2_with (first
    | (go_at_call 217; refine (hU _).mono ?_; rintro e w' ⟨⟨A1, rfl, hA⟩, rfl⟩; have hL1 := hL A1 hA; clear hA hL)
    | (go_at_call 215; refine hL1.mono ?_; rintro e w3 ⟨rfl, hp, hb, hkp⟩; have HQ := Lib.hid hp; have HB3 := Lib.hid (And.intro (HB1.out.1.trans hb) (HB1.out.2.trans hkp)); clear hp hb hkp hL1))
  go_end0
  refine ⟨rfl, ?_, HB3.out.1, HB3.out.2⟩
  exact HQ.out
set_option maxRecDepth 100000 in
set_option maxHeartbeats 8000000 in
theorem expr_13 (B b : Nat) (l : List UInt8) (K : Option Addr) (c : Nat) (a t o n : Int) (s : ByteArray) (kids : List Ex) (w : World) (h : IsPr B b (Lib.byteCells l) w) (hK : RdEs w (· < B) K 0 kids) (hS : smallEs kids) (HE : ∀ e ∈ kids, ExPr e) (hn : kids.length ≤ 1099511627776)
    (hlen : l.length + (prK 13 o n s.data.toList (prEs kids)).length ≤ 1099511627776) (hBw : B ≤ w.heap.size) :
    Calls Tryz.prog 195 #[.pointer (some ⟨b, 0, none⟩), .agg #[.int .i64 13, .int .i64 a, .int .i64 t, .int .i64 o, .int .i64 n, .string s, .slice K kids.length (kids.length + c)]] w (PrS B b (l ++ prK 13 o n s.data.toList (prEs kids)) w) := by
  have hp : prK 13 o n s.data.toList (prEs kids) = lsP [99, 111, 108, 115, 40] ((prEs kids).take 1) [41] := by simp [prK]
  rw [hp] at hlen ⊢
  clear hp
  obtain ⟨w1, hw1, hbb, hz1, hc1⟩ := t_one_al w #[.int .i64 13, .int .i64 a, .int .i64 t, .int .i64 o, .int .i64 n, .string s, .slice K kids.length (kids.length + c)] 160
  have hB1 : Below B w w1 := hbb.mono hBw
  have hp1 := h.below hbb
  have hK1 : RdEs w1 (· < B) K 0 kids := RdEs.keep (w' := w1) (fun q hq => hB1.cell hq) _ _ _ hK
  have hk1 := KeepT.of_below hbb
  have hz : B ≤ w1.heap.size := by omega
  obtain ⟨c0, c1, c2, c3, c4, c5, c6, cf⟩ := t0_cells7 hc1
  have HB1 := Lib.hid (And.intro hB1 hk1)
  have hU := fun w' => upTo_any K kids.length c hn w'
  have hL := fun A1 (hA : 0 < kids.length → A1 = K) => list_any B b l ⟨#[99, 111, 108, 115, 40]⟩ ⟨#[41]⟩ A1 (kids.take 1) (kids.length + c) w1 hp1 (first_of hK1 hA) (smallEs_sub hS (fun e he => List.mem_of_mem_take he)) (fun e he => HE e (List.mem_of_mem_take he)) (by rw [List.length_take]; omega) (by rw [prEs_take]; exact hlen) hz
  rw [prEs_take, List.length_take] at hL
  simp only at hL
  clear hp1 hK1 hS HE hn hlen
  clear h hK hbb hz1 hk1 hB1
  go_enter Tryz.func195, Tryz.ntmps195
  go_upto_region 1 with fail
  rw [← hw1]
  clear hw1
  go_wp2_with (first
    | (go_at_call 217; refine (hU _).mono ?_; rintro e w' ⟨⟨A1, rfl, hA⟩, rfl⟩; have hL1 := hL A1 hA; clear hA hL)
    | (go_at_call 215; refine hL1.mono ?_; rintro e w3 ⟨rfl, hp, hb, hkp⟩; have HQ := Lib.hid hp; have HB3 := Lib.hid (And.intro (HB1.out.1.trans hb) (HB1.out.2.trans hkp)); clear hp hb hkp hL1))
  go_end0
  refine ⟨rfl, ?_, HB3.out.1, HB3.out.2⟩
  exact HQ.out
set_option maxRecDepth 100000 in
set_option maxHeartbeats 8000000 in
theorem expr_14 (B b : Nat) (l : List UInt8) (K : Option Addr) (c : Nat) (a t o n : Int) (s : ByteArray) (kids : List Ex) (w : World) (h : IsPr B b (Lib.byteCells l) w) (hK : RdEs w (· < B) K 0 kids) (hS : smallEs kids) (HE : ∀ e ∈ kids, ExPr e) (hn : kids.length ≤ 1099511627776)
    (hlen : l.length + (prK 14 o n s.data.toList (prEs kids)).length ≤ 1099511627776) (hBw : B ≤ w.heap.size) :
    Calls Tryz.prog 195 #[.pointer (some ⟨b, 0, none⟩), .agg #[.int .i64 14, .int .i64 a, .int .i64 t, .int .i64 o, .int .i64 n, .string s, .slice K kids.length (kids.length + c)]] w (PrS B b (l ++ prK 14 o n s.data.toList (prEs kids)) w) := by
  have hp : prK 14 o n s.data.toList (prEs kids) = [105, 110, 112, 117, 116] := by simp [prK]
  rw [hp] at hlen ⊢
  clear hp
  obtain ⟨w1, hw1, hbb, hz1, hc1⟩ := t_one_al w #[.int .i64 14, .int .i64 a, .int .i64 t, .int .i64 o, .int .i64 n, .string s, .slice K kids.length (kids.length + c)] 160
  have hB1 : Below B w w1 := hbb.mono hBw
  have hp1 := h.below hbb
  have hK1 : RdEs w1 (· < B) K 0 kids := RdEs.keep (w' := w1) (fun q hq => hB1.cell hq) _ _ _ hK
  have hk1 := KeepT.of_below hbb
  have hz : B ≤ w1.heap.size := by omega
  obtain ⟨c0, c1, c2, c3, c4, c5, c6, cf⟩ := t0_cells7 hc1
  have HB1 := Lib.hid (And.intro hB1 hk1)
  have HS := say1 B b l ⟨#[105, 110, 112, 117, 116]⟩ w1 hp1 (by exact hlen) hz
  clear hp1 hK1 hS HE hn hlen
  clear h hK hbb hz1 hk1 hB1
  go_enter Tryz.func195, Tryz.ntmps195
  go_upto_region 1 with fail
  rw [← hw1]
  clear hw1
  go_wp2_with (go_at_call 91; refine HS.mono ?_; rintro e w3 ⟨rfl, hp, hb, hkp⟩; have HQ := Lib.hid hp; have HB3 := Lib.hid (And.intro (HB1.out.1.trans hb) (HB1.out.2.trans hkp)); clear hp hb hkp HS)
  go_end0
  refine ⟨rfl, ?_, HB3.out.1, HB3.out.2⟩
  exact HQ.out
set_option maxRecDepth 100000 in
set_option maxHeartbeats 8000000 in
theorem expr_rest (B b : Nat) (l : List UInt8) (K : Option Addr) (c : Nat) (k a t o n : Int) (s : ByteArray) (m : Nat) (ks : List (List UInt8)) (h1 : k ≠ 1) (h2 : k ≠ 2) (h3 : k ≠ 3) (h4 : k ≠ 4) (h5 : k ≠ 5) (h6 : k ≠ 6) (h7 : k ≠ 7) (h8 : k ≠ 8) (h9 : k ≠ 9) (h10 : k ≠ 10) (h11 : k ≠ 11) (h12 : k ≠ 12) (h13 : k ≠ 13) (h14 : k ≠ 14) (w : World) (h : IsPr B b (Lib.byteCells l) w) (hBw : B ≤ w.heap.size) :
    Calls Tryz.prog 195 #[.pointer (some ⟨b, 0, none⟩), .agg #[.int .i64 k, .int .i64 a, .int .i64 t, .int .i64 o, .int .i64 n, .string s, .slice K m c]] w (PrS B b (l ++ prK k o n s.data.toList ks) w) := by
  have hp : prK k o n s.data.toList ks = [] := by simp [prK, h1, h2, h3, h4, h5, h6, h7, h8, h9, h10, h11, h12, h13, h14]
  rw [hp, List.append_nil]
  have b1 : (k == 1) = false := by simpa using h1
  have b2 : (k == 2) = false := by simpa using h2
  have b3 : (k == 3) = false := by simpa using h3
  have b4 : (k == 4) = false := by simpa using h4
  have b5 : (k == 5) = false := by simpa using h5
  have b6 : (k == 6) = false := by simpa using h6
  have b7 : (k == 7) = false := by simpa using h7
  have b8 : (k == 8) = false := by simpa using h8
  have b9 : (k == 9) = false := by simpa using h9
  have b10 : (k == 10) = false := by simpa using h10
  have b11 : (k == 11) = false := by simpa using h11
  have b12 : (k == 12) = false := by simpa using h12
  have b13 : (k == 13) = false := by simpa using h13
  have b14 : (k == 14) = false := by simpa using h14
  have H := Lib.hid h
  clear h hp h1 h2 h3 h4 h5 h6 h7 h8 h9 h10 h11 h12 h13 h14
  go_enter Tryz.func195, Tryz.ntmps195
  go_wp2
  go_end0
  have hb : Below w.heap.size w (w.alloc (.cells #[.int .i64 k, .int .i64 a, .int .i64 t, .int .i64 o, .int .i64 n, .string s, .slice K m c] 160)) := (Below.refl _ _).alloc (Nat.le_refl _) _
  exact ⟨rfl, H.out.below hb, hb.mono hBw, KeepT.of_below hb⟩
theorem exPr_of (k a t o n : Int) (s : ByteArray) (kids : List Ex) (hS : smallEs kids) (HE : ∀ e ∈ kids, ExPr e) : ExPr (.mk k a t o n s kids) := by
  intro B b l K c k' a' t' o' n' s' kids' he w h hK hlen hn hBw
  injection he with e1 e2 e3 e4 e5 e6 e7
  subst e1 e2 e3 e4 e5 e6 e7
  unfold prE at hlen ⊢
  by_cases h1 : k = 1
  · subst h1
    exact expr_1 B b l K c a t o n s kids w h hK hS HE hn hlen hBw
  by_cases h2 : k = 2
  · subst h2
    exact expr_2 B b l K c a t o n s kids w h hK hS HE hn hlen hBw
  by_cases h3 : k = 3
  · subst h3
    exact expr_3 B b l K c a t o n s kids w h hK hS HE hn hlen hBw
  by_cases h4 : k = 4
  · subst h4
    exact expr_4 B b l K c a t o n s kids w h hK hS HE hn hlen hBw
  by_cases h5 : k = 5
  · subst h5
    exact expr_5 B b l K c a t o n s kids w h hK hS HE hn hlen hBw
  by_cases h6 : k = 6
  · subst h6
    exact expr_6 B b l K c a t o n s kids w h hK hS HE hn hlen hBw
  by_cases h7 : k = 7
  · subst h7
    exact expr_7 B b l K c a t o n s kids w h hK hS HE hn hlen hBw
  by_cases h8 : k = 8
  · subst h8
    exact expr_8 B b l K c a t o n s kids w h hK hS HE hn hlen hBw
  by_cases h9 : k = 9
  · subst h9
    exact expr_9 B b l K c a t o n s kids w h hK hS HE hn hlen hBw
  by_cases h10 : k = 10
  · subst h10
    exact expr_10 B b l K c a t o n s kids w h hK hS HE hn hlen hBw
  by_cases h11 : k = 11
  · subst h11
    exact expr_11 B b l K c a t o n s kids w h hK hS HE hn hlen hBw
  by_cases h12 : k = 12
  · subst h12
    exact expr_12 B b l K c a t o n s kids w h hK hS HE hn hlen hBw
  by_cases h13 : k = 13
  · subst h13
    exact expr_13 B b l K c a t o n s kids w h hK hS HE hn hlen hBw
  by_cases h14 : k = 14
  · subst h14
    exact expr_14 B b l K c a t o n s kids w h hK hS HE hn hlen hBw
  exact expr_rest B b l K (kids.length + c) k a t o n s kids.length (prEs kids) h1 h2 h3 h4 h5 h6 h7 h8 h9 h10 h11 h12 h13 h14 w h hBw
end Go.Proofs.YtnnjpegeefoecaaGreatDoor
