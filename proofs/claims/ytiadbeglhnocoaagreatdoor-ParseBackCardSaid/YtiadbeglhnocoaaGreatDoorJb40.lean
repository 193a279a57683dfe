/-
  An expression, printed.
  An expression as a text; one of several; a loop's step; what a function hands back.
  Statements, printed.
-/
import Derived.Test.YtiadbeglhnocoaaGreatDoorJb17
import Derived.Test.YtiadbeglhnocoaaGreatDoorJb39
import Derived.Deep.RegionWith
import Derived.Lib.ItoaLen
namespace Go.Proofs.YtiadbeglhnocoaaGreatDoor
set_option linter.unusedVariables false
set_option linter.unusedSimpArgs false
open Go.RowKit

theorem signA_size (op : Int) : (signA op).size ≤ 3 := by
  unfold signA nameAt
  split
  · decide
  · have : ∀ k : Nat, (signL.getD k ⟨#[]⟩).size ≤ 3 := fun k => by
      by_cases hk : k < 25
      · have h : ∀ k : Fin 25, (signL.getD k.val ⟨#[]⟩).size ≤ 3 := by decide +kernel
        exact h ⟨k, hk⟩
      · have : signL.length ≤ k := by have : signL.length = 25 := rfl; omega
        rw [List.getD_eq_getElem?_getD, List.getElem?_eq_none this]
        decide
    exact this _
theorem toL_size (s : ByteArray) : s.data.toList.length = s.size := by simp
set_option maxRecDepth 100000 in
set_option maxHeartbeats 8000000 in
theorem expr_1 (B b : Nat) (l : List UInt8) (K : Option Addr) (c : Nat) (a t o n : Int) (s : ByteArray) (kids : List Ex) (w : World) (h : IsPr B b (Lib.byteCells l) w) (hK : RdEs w (· < B) K 0 kids) (hS : smallEs kids) (HE : ∀ e ∈ kids, ExPr e) (hn : kids.length ≤ 1099511627776)
    (hlen : l.length + (prK 1 o n s.data.toList (prEs kids)).length ≤ 1099511627776) (hBw : B ≤ w.heap.size) :
    Calls Tryz.prog 92 #[.pointer (some ⟨b, 0, none⟩), .agg #[.int .i64 1, .int .i64 a, .int .i64 t, .int .i64 o, .int .i64 n, .string s, .slice K kids.length (kids.length + c)]] w (PrS B b (l ++ prK 1 o n s.data.toList (prEs kids)) w) := by
  have hp : prK 1 o n s.data.toList (prEs kids) = digM n := by simp [prK]
  rw [hp] at hlen ⊢
  clear hp
  obtain ⟨w1, hw1, hbb, hz1, hc1⟩ := t_one_al w #[.int .i64 1, .int .i64 a, .int .i64 t, .int .i64 o, .int .i64 n, .string s, .slice K kids.length (kids.length + c)] 96
  have hB1 : Below B w w1 := hbb.mono hBw
  have hp1 := h.below hbb
  have hK1 : RdEs w1 (· < B) K 0 kids := RdEs.keep (w' := w1) (fun q hq => hB1.cell hq) _ _ _ hK
  have hk1 := KeepT.of_below hbb
  have hz : B ≤ w1.heap.size := by omega
  obtain ⟨c0, c1, c2, c3, c4, c5, c6, cf⟩ := t0_cells7 hc1
  have HB1 := Lib.hid (And.intro hB1 hk1)
  have HD := fun w' => digits_any n (u64M n) (u64M_wrap n) (u64M_lt n) w'
  have HS := fun w2 (hb : Below w1.heap.size w1 w2) => say1 B b l ⟨(digM n).toArray⟩ w2 (hp1.below hb) (by simpa using hlen) (Nat.le_trans hz hb.size)
  simp only at HS
  unfold digM at HS ⊢
  clear hp1 hK1 hS HE hn hlen
  clear h hK hbb hz1 hk1 hB1
  go_enter Tryz.func92, Tryz.ntmps92
  go_upto_region 1 with fail
  rw [← hw1]
  clear hw1
  go_wp2_with (first
    | (go_at_call 80; refine (HD _).mono ?_; rintro e w2 ⟨rfl, hb⟩; have hS2 := HS w2 hb; have HB2 := Lib.hid (And.intro (HB1.out.1.trans (hb.mono hz)) (HB1.out.2.trans (KeepT.of_below hb))); clear hb HS)
    | (go_at_call 46; refine hS2.mono ?_; rintro e w3 ⟨rfl, hp, hb, hkp⟩; have HQ := Lib.hid hp; have HB3 := Lib.hid (And.intro (HB2.out.1.trans hb) (HB2.out.2.trans hkp)); clear hp hb hkp hS2))
  go_end0
  refine ⟨rfl, ?_, HB3.out.1, HB3.out.2⟩
  exact HQ.out
set_option maxRecDepth 100000 in
set_option maxHeartbeats 8000000 in
theorem expr_2 (B b : Nat) (l : List UInt8) (K : Option Addr) (c : Nat) (a t o n : Int) (s : ByteArray) (kids : List Ex) (w : World) (h : IsPr B b (Lib.byteCells l) w) (hK : RdEs w (· < B) K 0 kids) (hS : smallEs kids) (HE : ∀ e ∈ kids, ExPr e) (hn : kids.length ≤ 1099511627776)
    (hlen : l.length + (prK 2 o n s.data.toList (prEs kids)).length ≤ 1099511627776) (hBw : B ≤ w.heap.size) :
    Calls Tryz.prog 92 #[.pointer (some ⟨b, 0, none⟩), .agg #[.int .i64 2, .int .i64 a, .int .i64 t, .int .i64 o, .int .i64 n, .string s, .slice K kids.length (kids.length + c)]] w (PrS B b (l ++ prK 2 o n s.data.toList (prEs kids)) w) := by
  have hp : prK 2 o n s.data.toList (prEs kids) = truthB n := by simp [prK]
  rw [hp] at hlen ⊢
  clear hp
  obtain ⟨w1, hw1, hbb, hz1, hc1⟩ := t_one_al w #[.int .i64 2, .int .i64 a, .int .i64 t, .int .i64 o, .int .i64 n, .string s, .slice K kids.length (kids.length + c)] 96
  have hB1 : Below B w w1 := hbb.mono hBw
  have hp1 := h.below hbb
  have hK1 : RdEs w1 (· < B) K 0 kids := RdEs.keep (w' := w1) (fun q hq => hB1.cell hq) _ _ _ hK
  have hk1 := KeepT.of_below hbb
  have hz : B ≤ w1.heap.size := by omega
  obtain ⟨c0, c1, c2, c3, c4, c5, c6, cf⟩ := t0_cells7 hc1
  have HB1 := Lib.hid (And.intro hB1 hk1)
  have HT := fun w' => truth_any n w'
  have HS := say1 B b l ⟨(truthB n).toArray⟩ w1 hp1 (by simpa using hlen) hz
  simp only at HS
  obtain ⟨tv, htv⟩ : ∃ tv, tv = truthB n := ⟨_, rfl⟩
  rw [← htv] at HT HS ⊢
  clear htv hp1 hK1 hS HE hn hlen
  clear h hK hbb hz1 hk1 hB1
  go_enter Tryz.func92, Tryz.ntmps92
  go_upto_region 1 with fail
  rw [← hw1]
  clear hw1
  go_wp2_with (first
    | (go_at_call 99; refine (HT _).mono ?_; rintro e w' ⟨rfl, rfl⟩)
    | (go_at_call 46; refine HS.mono ?_; rintro e w3 ⟨rfl, hp, hb, hkp⟩; have HQ := Lib.hid hp; have HB3 := Lib.hid (And.intro (HB1.out.1.trans hb) (HB1.out.2.trans hkp)); clear hp hb hkp HS))
  go_end0
  refine ⟨rfl, ?_, HB3.out.1, HB3.out.2⟩
  exact HQ.out
set_option maxRecDepth 100000 in
set_option maxHeartbeats 8000000 in
theorem expr_3 (B b : Nat) (l : List UInt8) (K : Option Addr) (c : Nat) (a t o n : Int) (s : ByteArray) (kids : List Ex) (w : World) (h : IsPr B b (Lib.byteCells l) w) (hK : RdEs w (· < B) K 0 kids) (hS : smallEs kids) (HE : ∀ e ∈ kids, ExPr e) (hn : kids.length ≤ 1099511627776)
    (hlen : l.length + (prK 3 o n s.data.toList (prEs kids)).length ≤ 1099511627776) (hBw : B ≤ w.heap.size) :
    Calls Tryz.prog 92 #[.pointer (some ⟨b, 0, none⟩), .agg #[.int .i64 3, .int .i64 a, .int .i64 t, .int .i64 o, .int .i64 n, .string s, .slice K kids.length (kids.length + c)]] w (PrS B b (l ++ prK 3 o n s.data.toList (prEs kids)) w) := by
  have hp : prK 3 o n s.data.toList (prEs kids) = s.data.toList := by simp [prK]
  rw [hp] at hlen ⊢
  clear hp
  obtain ⟨w1, hw1, hbb, hz1, hc1⟩ := t_one_al w #[.int .i64 3, .int .i64 a, .int .i64 t, .int .i64 o, .int .i64 n, .string s, .slice K kids.length (kids.length + c)] 96
  have hB1 : Below B w w1 := hbb.mono hBw
  have hp1 := h.below hbb
  have hK1 : RdEs w1 (· < B) K 0 kids := RdEs.keep (w' := w1) (fun q hq => hB1.cell hq) _ _ _ hK
  have hk1 := KeepT.of_below hbb
  have hz : B ≤ w1.heap.size := by omega
  obtain ⟨c0, c1, c2, c3, c4, c5, c6, cf⟩ := t0_cells7 hc1
  have HB1 := Lib.hid (And.intro hB1 hk1)
  have HS := say1 B b l s w1 hp1 (by exact hlen) hz
  clear hp1 hK1 hS HE hn hlen
  clear h hK hbb hz1 hk1 hB1
  go_enter Tryz.func92, Tryz.ntmps92
  go_upto_region 1 with fail
  rw [← hw1]
  clear hw1
  go_wp2_with (go_at_call 46; refine HS.mono ?_; rintro e w3 ⟨rfl, hp, hb, hkp⟩; have HQ := Lib.hid hp; have HB3 := Lib.hid (And.intro (HB1.out.1.trans hb) (HB1.out.2.trans hkp)); clear hp hb hkp HS)
  go_end0
  refine ⟨rfl, ?_, HB3.out.1, HB3.out.2⟩
  exact HQ.out
set_option maxRecDepth 100000 in
set_option maxHeartbeats 8000000 in
theorem expr_4 (B b : Nat) (l : List UInt8) (K : Option Addr) (c : Nat) (a t o n : Int) (s : ByteArray) (kids : List Ex) (w : World) (h : IsPr B b (Lib.byteCells l) w) (hK : RdEs w (· < B) K 0 kids) (hS : smallEs kids) (HE : ∀ e ∈ kids, ExPr e) (hn : kids.length ≤ 1099511627776)
    (hlen : l.length + (prK 4 o n s.data.toList (prEs kids)).length ≤ 1099511627776) (hBw : B ≤ w.heap.size) :
    Calls Tryz.prog 92 #[.pointer (some ⟨b, 0, none⟩), .agg #[.int .i64 4, .int .i64 a, .int .i64 t, .int .i64 o, .int .i64 n, .string s, .slice K kids.length (kids.length + c)]] w (PrS B b (l ++ prK 4 o n s.data.toList (prEs kids)) w) := by
  have hp : prK 4 o n s.data.toList (prEs kids) = lsP ([40] ++ sgnB o) ((prEs kids).take 1) [41] := by simp [prK]
  rw [hp] at hlen ⊢
  clear hp
  obtain ⟨w1, hw1, hbb, hz1, hc1⟩ := t_one_al w #[.int .i64 4, .int .i64 a, .int .i64 t, .int .i64 o, .int .i64 n, .string s, .slice K kids.length (kids.length + c)] 96
  have hB1 : Below B w w1 := hbb.mono hBw
  have hp1 := h.below hbb
  have hK1 : RdEs w1 (· < B) K 0 kids := RdEs.keep (w' := w1) (fun q hq => hB1.cell hq) _ _ _ hK
  have hk1 := KeepT.of_below hbb
  have hz : B ≤ w1.heap.size := by omega
  obtain ⟨c0, c1, c2, c3, c4, c5, c6, cf⟩ := t0_cells7 hc1
  have HB1 := Lib.hid (And.intro hB1 hk1)
  have hU := fun w' => upTo_any K kids.length c hn w'
  have hd1 : Below w1.heap.size w1 w1.drew := (Below.refl _ _).drew
  have HSg := fun w' => tsign_any o w'
  have hsz := signA_size o
  unfold sgnB at hlen ⊢
  obtain ⟨sg, hsg⟩ : ∃ sg, sg = signA o := ⟨_, rfl⟩
  rw [← hsg] at HSg hlen hsz ⊢
  have hL := fun A1 (hA : 0 < kids.length → A1 = K) => list_any B b l (⟨#[40]⟩ ++ sg) ⟨#[41]⟩ A1 (kids.take 1) (kids.length + c) w1.drew (hp1.below hd1) (first_of (RdEs.keep (w := w1) (w' := w1.drew) (fun q _ => rfl) _ _ _ hK1) hA) (smallEs_sub hS (fun e he => List.mem_of_mem_take he)) (fun e he => HE e (List.mem_of_mem_take he)) (by rw [List.length_take]; omega) (by rw [app_bytes, prEs_take]; exact hlen) hz
  rw [app_bytes, prEs_take, List.length_take] at hL
  simp only at hL
  have HB1 : Hid (Below B w w1.drew ∧ KeepT w w1.drew) := Lib.hid ⟨HB1.out.1.trans (hd1.mono hz), HB1.out.2.trans (KeepT.of_below hd1)⟩
  clear hd1 hsg hp1 hK1 hS HE hn hlen
  clear h hK hbb hz1 hk1 hB1
  go_enter Tryz.func92, Tryz.ntmps92
  go_upto_region 1 with fail
  rw [← hw1]
  clear hw1
  go_upto_region 9 with fail
  go_region_with (first
    | (go_at_call 101; refine (HSg _).mono ?_; rintro e w' ⟨rfl, rfl⟩)
    | (go_at_call 102; refine (hU _).mono ?_; rintro e w' ⟨⟨A1, rfl, hA⟩, rfl⟩; have HL1 := Lib.hid (hL A1 hA); clear hA)
    | (go_at_call 100; refine HL1.out.mono ?_; rintro e w3 ⟨rfl, hp, hb, hkp⟩; have HQ := Lib.hid hp; have HB3 := Lib.hid (And.intro (HB1.out.1.trans hb) (HB1.out.2.trans hkp)); clear hp hb hkp HL1))
  all_goals
    go_wp2
    go_end0
    refine ⟨rfl, ?_, HB3.out.1, HB3.out.2⟩
    exact HQ.out
set_option maxRecDepth 100000 in
set_option maxHeartbeats 8000000 in
theorem expr_5 (B b : Nat) (l : List UInt8) (K : Option Addr) (c : Nat) (a t o n : Int) (s : ByteArray) (kids : List Ex) (w : World) (h : IsPr B b (Lib.byteCells l) w) (hK : RdEs w (· < B) K 0 kids) (hS : smallEs kids) (HE : ∀ e ∈ kids, ExPr e) (hn : kids.length ≤ 1099511627776)
    (hlen : l.length + (prK 5 o n s.data.toList (prEs kids)).length ≤ 1099511627776) (hBw : B ≤ w.heap.size) :
    Calls Tryz.prog 92 #[.pointer (some ⟨b, 0, none⟩), .agg #[.int .i64 5, .int .i64 a, .int .i64 t, .int .i64 o, .int .i64 n, .string s, .slice K kids.length (kids.length + c)]] w (PrS B b (l ++ prK 5 o n s.data.toList (prEs kids)) w) := by
  have hp : prK 5 o n s.data.toList (prEs kids) = pairP (prEs kids) (sgnB o) := by simp [prK]
  rw [hp] at hlen ⊢
  clear hp
  obtain ⟨w1, hw1, hbb, hz1, hc1⟩ := t_one_al w #[.int .i64 5, .int .i64 a, .int .i64 t, .int .i64 o, .int .i64 n, .string s, .slice K kids.length (kids.length + c)] 96
  have hB1 : Below B w w1 := hbb.mono hBw
  have hp1 := h.below hbb
  have hK1 : RdEs w1 (· < B) K 0 kids := RdEs.keep (w' := w1) (fun q hq => hB1.cell hq) _ _ _ hK
  have hk1 := KeepT.of_below hbb
  have hz : B ≤ w1.heap.size := by omega
  obtain ⟨c0, c1, c2, c3, c4, c5, c6, cf⟩ := t0_cells7 hc1
  have HB1 := Lib.hid (And.intro hB1 hk1)
  have hd1 : Below w1.heap.size w1 w1.drew := (Below.refl _ _).drew
  have HSg := fun w' => tsign_any o w'
  have hsz := signA_size o
  unfold sgnB at hlen ⊢
  obtain ⟨sg, hsg⟩ : ∃ sg, sg = signA o := ⟨_, rfl⟩
  rw [← hsg] at HSg hlen hsz ⊢
  have hL := pair_any B b l K kids c sg (by omega) w1.drew (hp1.below hd1) (RdEs.keep (w := w1) (w' := w1.drew) (fun q _ => rfl) _ _ _ hK1) hS HE hn hlen hz
  have HB1 : Hid (Below B w w1.drew ∧ KeepT w w1.drew) := Lib.hid ⟨HB1.out.1.trans (hd1.mono hz), HB1.out.2.trans (KeepT.of_below hd1)⟩
  clear hd1 hsg hp1 hK1 hS HE hn hlen
  clear h hK hbb hz1 hk1 hB1
  go_enter Tryz.func92, Tryz.ntmps92
  go_upto_region 1 with fail
  rw [← hw1]
  clear hw1
  go_upto_region 11 with fail
  go_region_with (first
    | (go_at_call 101; refine (HSg _).mono ?_; rintro e w' ⟨rfl, rfl⟩)
    | (go_at_call 103; refine hL.mono ?_; rintro e w3 ⟨rfl, hp, hb, hkp⟩; have HQ := Lib.hid hp; have HB3 := Lib.hid (And.intro (HB1.out.1.trans hb) (HB1.out.2.trans hkp)); clear hp hb hkp hL))
  all_goals
    go_wp2
    go_end0
    refine ⟨rfl, ?_, HB3.out.1, HB3.out.2⟩
    exact HQ.out
set_option maxRecDepth 100000 in
set_option maxHeartbeats 8000000 in
theorem expr_6 (B b : Nat) (l : List UInt8) (K : Option Addr) (c : Nat) (a t o n : Int) (s : ByteArray) (kids : List Ex) (w : World) (h : IsPr B b (Lib.byteCells l) w) (hK : RdEs w (· < B) K 0 kids) (hS : smallEs kids) (HE : ∀ e ∈ kids, ExPr e) (hn : kids.length ≤ 1099511627776)
    (hlen : l.length + (prK 6 o n s.data.toList (prEs kids)).length ≤ 1099511627776) (hBw : B ≤ w.heap.size) :
    Calls Tryz.prog 92 #[.pointer (some ⟨b, 0, none⟩), .agg #[.int .i64 6, .int .i64 a, .int .i64 t, .int .i64 o, .int .i64 n, .string s, .slice K kids.length (kids.length + c)]] w (PrS B b (l ++ prK 6 o n s.data.toList (prEs kids)) w) := by
  have hp : prK 6 o n s.data.toList (prEs kids) = pairP (prEs kids) [38, 38] := by simp [prK]
  rw [hp] at hlen ⊢
  clear hp
  obtain ⟨w1, hw1, hbb, hz1, hc1⟩ := t_one_al w #[.int .i64 6, .int .i64 a, .int .i64 t, .int .i64 o, .int .i64 n, .string s, .slice K kids.length (kids.length + c)] 96
  have hB1 : Below B w w1 := hbb.mono hBw
  have hp1 := h.below hbb
  have hK1 : RdEs w1 (· < B) K 0 kids := RdEs.keep (w' := w1) (fun q hq => hB1.cell hq) _ _ _ hK
  have hk1 := KeepT.of_below hbb
  have hz : B ≤ w1.heap.size := by omega
  obtain ⟨c0, c1, c2, c3, c4, c5, c6, cf⟩ := t0_cells7 hc1
  have HB1 := Lib.hid (And.intro hB1 hk1)
  have hL := pair_any B b l K kids c ⟨#[38, 38]⟩ (by decide) w1 hp1 hK1 hS HE hn hlen hz
  simp only at hL
  clear hp1 hK1 hS HE hn hlen
  clear h hK hbb hz1 hk1 hB1
  go_enter Tryz.func92, Tryz.ntmps92
  go_upto_region 1 with fail
  rw [← hw1]
  clear hw1
  go_wp2_with (go_at_call 103; refine hL.mono ?_; rintro e w3 ⟨rfl, hp, hb, hkp⟩; have HQ := Lib.hid hp; have HB3 := Lib.hid (And.intro (HB1.out.1.trans hb) (HB1.out.2.trans hkp)); clear hp hb hkp hL)
  go_end0
  refine ⟨rfl, ?_, HB3.out.1, HB3.out.2⟩
  exact HQ.out
set_option maxRecDepth 100000 in
set_option maxHeartbeats 8000000 in
theorem expr_7 (B b : Nat) (l : List UInt8) (K : Option Addr) (c : Nat) (a t o n : Int) (s : ByteArray) (kids : List Ex) (w : World) (h : IsPr B b (Lib.byteCells l) w) (hK : RdEs w (· < B) K 0 kids) (hS : smallEs kids) (HE : ∀ e ∈ kids, ExPr e) (hn : kids.length ≤ 1099511627776)
    (hlen : l.length + (prK 7 o n s.data.toList (prEs kids)).length ≤ 1099511627776) (hBw : B ≤ w.heap.size) :
    Calls Tryz.prog 92 #[.pointer (some ⟨b, 0, none⟩), .agg #[.int .i64 7, .int .i64 a, .int .i64 t, .int .i64 o, .int .i64 n, .string s, .slice K kids.length (kids.length + c)]] w (PrS B b (l ++ prK 7 o n s.data.toList (prEs kids)) w) := by
  have hp : prK 7 o n s.data.toList (prEs kids) = pairP (prEs kids) [124, 124] := by simp [prK]
  rw [hp] at hlen ⊢
  clear hp
  obtain ⟨w1, hw1, hbb, hz1, hc1⟩ := t_one_al w #[.int .i64 7, .int .i64 a, .int .i64 t, .int .i64 o, .int .i64 n, .string s, .slice K kids.length (kids.length + c)] 96
  have hB1 : Below B w w1 := hbb.mono hBw
  have hp1 := h.below hbb
  have hK1 : RdEs w1 (· < B) K 0 kids := RdEs.keep (w' := w1) (fun q hq => hB1.cell hq) _ _ _ hK
  have hk1 := KeepT.of_below hbb
  have hz : B ≤ w1.heap.size := by omega
  obtain ⟨c0, c1, c2, c3, c4, c5, c6, cf⟩ := t0_cells7 hc1
  have HB1 := Lib.hid (And.intro hB1 hk1)
  have hL := pair_any B b l K kids c ⟨#[124, 124]⟩ (by decide) w1 hp1 hK1 hS HE hn hlen hz
  simp only at hL
  clear hp1 hK1 hS HE hn hlen
  clear h hK hbb hz1 hk1 hB1
  go_enter Tryz.func92, Tryz.ntmps92
  go_upto_region 1 with fail
  rw [← hw1]
  clear hw1
  go_wp2_with (go_at_call 103; refine hL.mono ?_; rintro e w3 ⟨rfl, hp, hb, hkp⟩; have HQ := Lib.hid hp; have HB3 := Lib.hid (And.intro (HB1.out.1.trans hb) (HB1.out.2.trans hkp)); clear hp hb hkp hL)
  go_end0
  refine ⟨rfl, ?_, HB3.out.1, HB3.out.2⟩
  exact HQ.out
set_option maxRecDepth 100000 in
set_option maxHeartbeats 8000000 in
theorem expr_8 (B b : Nat) (l : List UInt8) (K : Option Addr) (c : Nat) (a t o n : Int) (s : ByteArray) (kids : List Ex) (w : World) (h : IsPr B b (Lib.byteCells l) w) (hK : RdEs w (· < B) K 0 kids) (hS : smallEs kids) (HE : ∀ e ∈ kids, ExPr e) (hn : kids.length ≤ 1099511627776)
    (hlen : l.length + (prK 8 o n s.data.toList (prEs kids)).length ≤ 1099511627776) (hBw : B ≤ w.heap.size) :
    Calls Tryz.prog 92 #[.pointer (some ⟨b, 0, none⟩), .agg #[.int .i64 8, .int .i64 a, .int .i64 t, .int .i64 o, .int .i64 n, .string s, .slice K kids.length (kids.length + c)]] w (PrS B b (l ++ prK 8 o n s.data.toList (prEs kids)) w) := by
  have hp : prK 8 o n s.data.toList (prEs kids) = lsP (s.data.toList ++ [40]) (prEs kids) [41] := by simp [prK]
  rw [hp] at hlen ⊢
  clear hp
  obtain ⟨w1, hw1, hbb, hz1, hc1⟩ := t_one_al w #[.int .i64 8, .int .i64 a, .int .i64 t, .int .i64 o, .int .i64 n, .string s, .slice K kids.length (kids.length + c)] 96
  have hB1 : Below B w w1 := hbb.mono hBw
  have hp1 := h.below hbb
  have hK1 : RdEs w1 (· < B) K 0 kids := RdEs.keep (w' := w1) (fun q hq => hB1.cell hq) _ _ _ hK
  have hk1 := KeepT.of_below hbb
  have hz : B ≤ w1.heap.size := by omega
  obtain ⟨c0, c1, c2, c3, c4, c5, c6, cf⟩ := t0_cells7 hc1
  have HB1 := Lib.hid (And.intro hB1 hk1)
  have hL := list_any B b l (s ++ ⟨#[40]⟩) ⟨#[41]⟩ K kids (kids.length + c) w1 hp1 hK1 hS HE hn (by rw [app_bytes]; exact hlen) hz
  rw [app_bytes] at hL
  have hsz : s.size ≤ 1099511627776 := by rw [← toL_size]; unfold lsP at hlen; simp only [List.length_append] at hlen; omega
  simp only at hL
  clear hp1 hK1 hS HE hn hlen
  clear h hK hbb hz1 hk1 hB1
  go_enter Tryz.func92, Tryz.ntmps92
  go_upto_region 1 with fail
  rw [← hw1]
  clear hw1
  go_wp2_with (go_at_call 100; refine hL.mono ?_; rintro e w3 ⟨rfl, hp, hb, hkp⟩; have HQ := Lib.hid hp; have HB3 := Lib.hid (And.intro (HB1.out.1.trans hb) (HB1.out.2.trans hkp)); clear hp hb hkp hL)
  go_end0
  refine ⟨rfl, ?_, HB3.out.1, HB3.out.2⟩
  exact HQ.out
set_option maxRecDepth 100000 in
set_option maxHeartbeats 8000000 in
theorem expr_9 (B b : Nat) (l : List UInt8) (K : Option Addr) (c : Nat) (a t o n : Int) (s : ByteArray) (kids : List Ex) (w : World) (h : IsPr B b (Lib.byteCells l) w) (hK : RdEs w (· < B) K 0 kids) (hS : smallEs kids) (HE : ∀ e ∈ kids, ExPr e) (hn : kids.length ≤ 1099511627776)
    (hlen : l.length + (prK 9 o n s.data.toList (prEs kids)).length ≤ 1099511627776) (hBw : B ≤ w.heap.size) :
    Calls Tryz.prog 92 #[.pointer (some ⟨b, 0, none⟩), .agg #[.int .i64 9, .int .i64 a, .int .i64 t, .int .i64 o, .int .i64 n, .string s, .slice K kids.length (kids.length + c)]] w (PrS B b (l ++ prK 9 o n s.data.toList (prEs kids)) w) := by
  have hp : prK 9 o n s.data.toList (prEs kids) = lsP [] ((prEs kids).take 1) [] ++ lsP [91] ((prEs kids).drop 1) [93] := by simp [prK]
  rw [hp] at hlen ⊢
  clear hp
  obtain ⟨w1, hw1, hbb, hz1, hc1⟩ := t_one_al w #[.int .i64 9, .int .i64 a, .int .i64 t, .int .i64 o, .int .i64 n, .string s, .slice K kids.length (kids.length + c)] 96
  have hB1 : Below B w w1 := hbb.mono hBw
  have hp1 := h.below hbb
  have hK1 : RdEs w1 (· < B) K 0 kids := RdEs.keep (w' := w1) (fun q hq => hB1.cell hq) _ _ _ hK
  have hk1 := KeepT.of_below hbb
  have hz : B ≤ w1.heap.size := by omega
  obtain ⟨c0, c1, c2, c3, c4, c5, c6, cf⟩ := t0_cells7 hc1
  have HB1 := Lib.hid (And.intro hB1 hk1)
  have hU := fun w' => upTo_any K kids.length c hn w'
  have hF := fun w' => from_any (· < B) K kids c hn w' w1 hK1
  rw [List.length_append] at hlen
  obtain ⟨p1, hp1'⟩ : ∃ p1, p1 = lsP [] ((prEs kids).take 1) [] := ⟨_, rfl⟩
  obtain ⟨p2, hp2'⟩ : ∃ p2, p2 = lsP [91] ((prEs kids).drop 1) [93] := ⟨_, rfl⟩
  have hL := fun A1 (hA : 0 < kids.length → A1 = K) => list_any B b l ⟨#[]⟩ ⟨#[]⟩ A1 (kids.take 1) (kids.length + c) w1 hp1 (first_of hK1 hA) (smallEs_sub hS (fun e he => List.mem_of_mem_take he)) (fun e he => HE e (List.mem_of_mem_take he)) (by rw [List.length_take]; omega) (by rw [prEs_take]; show _ + (lsP [] _ []).length ≤ _; omega) hz
  rw [prEs_take, List.length_take] at hL
  simp only at hL
  rw [← hp1'] at hL hlen ⊢
  have hL2 := fun A2 x2 w2 (hp : IsPr B b (Lib.byteCells (l ++ p1)) w2) (hb : Below B w1 w2) (hR : RdEs w1 (· < B) A2 0 (kids.drop 1)) => list_any B b (l ++ p1) ⟨#[91]⟩ ⟨#[93]⟩ A2 (kids.drop 1) x2 w2 hp (RdEs.keep (w' := w2) (fun q hq => hb.cell hq) _ _ _ hR) (smallEs_sub hS (fun e he => List.mem_of_mem_drop he)) (fun e he => HE e (List.mem_of_mem_drop he)) (by rw [List.length_drop]; omega) (by rw [prEs_drop, List.length_append]; show _ + (lsP [91] _ [93]).length ≤ _; omega) (Nat.le_trans hz hb.size)
  rw [prEs_drop] at hL2
  simp only at hL2
  rw [← hp2'] at hL2 ⊢
  obtain ⟨m, hm⟩ : ∃ m, m = (kids.drop 1).length := ⟨_, rfl⟩
  rw [← hm] at hL2 hF
  have HL2 := Lib.hid hL2
  have Hc1 := Lib.hid hc1
  clear hm hL2 hp1' hp2' hp1 hK1 hS HE hn hlen
  clear h hK hbb hz1 hk1 hB1
  go_enter Tryz.func92, Tryz.ntmps92
  go_upto_region 1 with fail
  rw [← hw1]
  clear hw1
  go_upto_region 20 with (first
    | (go_at_call 102; refine (hU _).mono ?_; rintro e w' ⟨⟨A1, rfl, hA⟩, rfl⟩; have hL1 := hL A1 hA; clear hA hL)
    | (go_at_call 100; refine hL1.mono ?_; rintro e w2 ⟨rfl, hp, hb, hkp⟩; have HP2 := Lib.hid hp; obtain ⟨d0, d1, d2, d3, d4, d5, d6, df⟩ := t0_cells7 (hkp _ _ _ _ Hc1.out (by decide) (by decide)); have HB2 := Lib.hid (And.intro hb hkp); clear hp hb hkp hL1 c0 c1 c2 c3 c4 c5 c6 cf))
  go_wp2_with (first
    | (go_at_call 104; refine (hF _).mono ?_; rintro e w' ⟨⟨A2, x2, rfl, hR2⟩, rfl⟩; have hL3 := HL2.out A2 (m + x2) w2 HP2.out HB2.out.1 hR2; clear hR2 hF HL2)
    | (go_at_call 100; refine hL3.mono ?_; rintro e w3 ⟨rfl, hp, hb, hkp⟩; have HQ := Lib.hid hp; have HB3 := Lib.hid (And.intro (HB1.out.1.trans (HB2.out.1.trans hb)) (HB1.out.2.trans (HB2.out.2.trans hkp))); clear hp hb hkp hL3))
  go_end0
  refine ⟨rfl, ?_, HB3.out.1, HB3.out.2⟩
  rw [← List.append_assoc]
  exact HQ.out
set_option maxRecDepth 100000 in
set_option maxHeartbeats 8000000 in
theorem expr_10 (B b : Nat) (l : List UInt8) (K : Option Addr) (c : Nat) (a t o n : Int) (s : ByteArray) (kids : List Ex) (w : World) (h : IsPr B b (Lib.byteCells l) w) (hK : RdEs w (· < B) K 0 kids) (hS : smallEs kids) (HE : ∀ e ∈ kids, ExPr e) (hn : kids.length ≤ 1099511627776)
    (hlen : l.length + (prK 10 o n s.data.toList (prEs kids)).length ≤ 1099511627776) (hBw : B ≤ w.heap.size) :
    Calls Tryz.prog 92 #[.pointer (some ⟨b, 0, none⟩), .agg #[.int .i64 10, .int .i64 a, .int .i64 t, .int .i64 o, .int .i64 n, .string s, .slice K kids.length (kids.length + c)]] w (PrS B b (l ++ prK 10 o n s.data.toList (prEs kids)) w) := by
  have hp : prK 10 o n s.data.toList (prEs kids) = lsP [110, 101, 119, 32, 91] (prEs kids) [93] := by simp [prK]
  rw [hp] at hlen ⊢
  clear hp
  obtain ⟨w1, hw1, hbb, hz1, hc1⟩ := t_one_al w #[.int .i64 10, .int .i64 a, .int .i64 t, .int .i64 o, .int .i64 n, .string s, .slice K kids.length (kids.length + c)] 96
  have hB1 : Below B w w1 := hbb.mono hBw
  have hp1 := h.below hbb
  have hK1 : RdEs w1 (· < B) K 0 kids := RdEs.keep (w' := w1) (fun q hq => hB1.cell hq) _ _ _ hK
  have hk1 := KeepT.of_below hbb
  have hz : B ≤ w1.heap.size := by omega
  obtain ⟨c0, c1, c2, c3, c4, c5, c6, cf⟩ := t0_cells7 hc1
  have HB1 := Lib.hid (And.intro hB1 hk1)
  have hL := list_any B b l ⟨#[110, 101, 119, 32, 91]⟩ ⟨#[93]⟩ K kids (kids.length + c) w1 hp1 hK1 hS HE hn (by exact hlen) hz
  simp only at hL
  clear hp1 hK1 hS HE hn hlen
  clear h hK hbb hz1 hk1 hB1
  go_enter Tryz.func92, Tryz.ntmps92
  go_upto_region 1 with fail
  rw [← hw1]
  clear hw1
  go_wp2_with (go_at_call 100; refine hL.mono ?_; rintro e w3 ⟨rfl, hp, hb, hkp⟩; have HQ := Lib.hid hp; have HB3 := Lib.hid (And.intro (HB1.out.1.trans hb) (HB1.out.2.trans hkp)); clear hp hb hkp hL)
  go_end0
  refine ⟨rfl, ?_, HB3.out.1, HB3.out.2⟩
  exact HQ.out
set_option maxRecDepth 100000 in
set_option maxHeartbeats 8000000 in
theorem expr_11 (B b : Nat) (l : List UInt8) (K : Option Addr) (c : Nat) (a t o n : Int) (s : ByteArray) (kids : List Ex) (w : World) (h : IsPr B b (Lib.byteCells l) w) (hK : RdEs w (· < B) K 0 kids) (hS : smallEs kids) (HE : ∀ e ∈ kids, ExPr e) (hn : kids.length ≤ 1099511627776)
    (hlen : l.length + (prK 11 o n s.data.toList (prEs kids)).length ≤ 1099511627776) (hBw : B ≤ w.heap.size) :
    Calls Tryz.prog 92 #[.pointer (some ⟨b, 0, none⟩), .agg #[.int .i64 11, .int .i64 a, .int .i64 t, .int .i64 o, .int .i64 n, .string s, .slice K kids.length (kids.length + c)]] w (PrS B b (l ++ prK 11 o n s.data.toList (prEs kids)) w) := by
  have hp : prK 11 o n s.data.toList (prEs kids) = lsP [108, 101, 110, 40] ((prEs kids).take 1) [41] := by simp [prK]
  rw [hp] at hlen ⊢
  clear hp
  obtain ⟨w1, hw1, hbb, hz1, hc1⟩ := t_one_al w #[.int .i64 11, .int .i64 a, .int .i64 t, .int .i64 o, .int .i64 n, .string s, .slice K kids.length (kids.length + c)] 96
  have hB1 : Below B w w1 := hbb.mono hBw
  have hp1 := h.below hbb
  have hK1 : RdEs w1 (· < B) K 0 kids := RdEs.keep (w' := w1) (fun q hq => hB1.cell hq) _ _ _ hK
  have hk1 := KeepT.of_below hbb
  have hz : B ≤ w1.heap.size := by omega
  obtain ⟨c0, c1, c2, c3, c4, c5, c6, cf⟩ := t0_cells7 hc1
  have HB1 := Lib.hid (And.intro hB1 hk1)
  have hU := fun w' => upTo_any K kids.length c hn w'
  have hL := fun A1 (hA : 0 < kids.length → A1 = K) => list_any B b l ⟨#[108, 101, 110, 40]⟩ ⟨#[41]⟩ A1 (kids.take 1) (kids.length + c) w1 hp1 (first_of hK1 hA) (smallEs_sub hS (fun e he => List.mem_of_mem_take he)) (fun e he => HE e (List.mem_of_mem_take he)) (by rw [List.length_take]; omega) (by rw [prEs_take]; exact hlen) hz
  rw [prEs_take, List.length_take] at hL
  simp only at hL
  clear hp1 hK1 hS HE hn hlen
  clear h hK hbb hz1 hk1 hB1
  go_enter Tryz.func92, Tryz.ntmps92
  go_upto_region 1 with fail
  rw [← hw1]
  clear hw1
  go_wp2_with (first
    | (go_at_call 102; refine (hU _).mono ?_; rintro e w' ⟨⟨A1, rfl, hA⟩, rfl⟩; have hL1 := hL A1 hA; clear hA hL)
    | (go_at_call 100; refine hL1.mono ?_; rintro e w3 ⟨rfl, hp, hb, hkp⟩; have HQ := Lib.hid hp; have HB3 := Lib.hid (And.intro (HB1.out.1.trans hb) (HB1.out.2.trans hkp)); clear hp hb hkp hL1))
  go_end0
  refine ⟨rfl, ?_, HB3.out.1, HB3.out.2⟩
  exact HQ.out
set_option maxRecDepth 100000 in
set_option maxHeartbeats 8000000 in
theorem expr_12 (B b : Nat) (l : List UInt8) (K : Option Addr) (c : Nat) (a t o n : Int) (s : ByteArray) (kids : List Ex) (w : World) (h : IsPr B b (Lib.byteCells l) w) (hK : RdEs w (· < B) K 0 kids) (hS : smallEs kids) (HE : ∀ e ∈ kids, ExPr e) (hn : kids.length ≤ 1099511627776)
    (hlen : l.length + (prK 12 o n s.data.toList (prEs kids)).length ≤ 1099511627776) (hBw : B ≤ w.heap.size) :
    Calls Tryz.prog 92 #[.pointer (some ⟨b, 0, none⟩), .agg #[.int .i64 12, .int .i64 a, .int .i64 t, .int .i64 o, .int .i64 n, .string s, .slice K kids.length (kids.length + c)]] w (PrS B b (l ++ prK 12 o n s.data.toList (prEs kids)) w) := by
  have hp : prK 12 o n s.data.toList (prEs kids) = lsP [114, 111, 119, 115, 40] ((prEs kids).take 1) [41] := by simp [prK]
  rw [hp] at hlen ⊢
  clear hp
  obtain ⟨w1, hw1, hbb, hz1, hc1⟩ := t_one_al w #[.int .i64 12, .int .i64 a, .int .i64 t, .int .i64 o, .int .i64 n, .string s, .slice K kids.length (kids.length + c)] 96
  have hB1 : Below B w w1 := hbb.mono hBw
  have hp1 := h.below hbb
  have hK1 : RdEs w1 (· < B) K 0 kids := RdEs.keep (w' := w1) (fun q hq => hB1.cell hq) _ _ _ hK
  have hk1 := KeepT.of_below hbb
  have hz : B ≤ w1.heap.size := by omega
  obtain ⟨c0, c1, c2, c3, c4, c5, c6, cf⟩ := t0_cells7 hc1
  have HB1 := Lib.hid (And.intro hB1 hk1)
  have hU := fun w' => upTo_any K kids.length c hn w'
  have hL := fun A1 (hA : 0 < kids.length → A1 = K) => list_any B b l ⟨#[114, 111, 119, 115, 40]⟩ ⟨#[41]⟩ A1 (kids.take 1) (kids.length + c) w1 hp1 (first_of hK1 hA) (smallEs_sub hS (fun e he => List.mem_of_mem_take he)) (fun e he => HE e (List.mem_of_mem_take he)) (by rw [List.length_take]; omega) (by rw [prEs_take]; exact hlen) hz
  rw [prEs_take, List.length_take] at hL
  simp only at hL
  clear hp1 hK1 hS HE hn hlen
  clear h hK hbb hz1 hk1 hB1
  go_enter Tryz.func92, Tryz.ntmps92
  go_upto_region 1 with fail
  rw [← hw1]
  clear hw1
  go_wp2_with (first
    | (go_at_call 102; refine (hU _).mono ?_; rintro e w' ⟨⟨A1, rfl, hA⟩, rfl⟩; have hL1 := hL A1 hA; clear hA hL)
    | (go_at_call 100; refine hL1.mono ?_; rintro e w3 ⟨rfl, hp, hb, hkp⟩; have HQ := Lib.hid hp; have HB3 := Lib.hid (And.intro (HB1.out.1.trans hb) (HB1.out.2.trans hkp)); clear hp hb hkp hL1))
  go_end0
  refine ⟨rfl, ?_, HB3.out.1, HB3.out.2⟩
  exact HQ.out
set_option maxRecDepth 100000 in
set_option maxHeartbeats 8000000 in
theorem expr_13 (B b : Nat) (l : List UInt8) (K : Option Addr) (c : Nat) (a t o n : Int) (s : ByteArray) (kids : List Ex) (w : World) (h : IsPr B b (Lib.byteCells l) w) (hK : RdEs w (· < B) K 0 kids) (hS : smallEs kids) (HE : ∀ e ∈ kids, ExPr e) (hn : kids.length ≤ 1099511627776)
    (hlen : l.length + (prK 13 o n s.data.toList (prEs kids)).length ≤ 1099511627776) (hBw : B ≤ w.heap.size) :
    Calls Tryz.prog 92 #[.pointer (some ⟨b, 0, none⟩), .agg #[.int .i64 13, .int .i64 a, .int .i64 t, .int .i64 o, .int .i64 n, .string s, .slice K kids.length (kids.length + c)]] w (PrS B b (l ++ prK 13 o n s.data.toList (prEs kids)) w) := by
  have hp : prK 13 o n s.data.toList (prEs kids) = lsP [99, 111, 108, 115, 40] ((prEs kids).take 1) [41] := by simp [prK]
  rw [hp] at hlen ⊢
  clear hp
  obtain ⟨w1, hw1, hbb, hz1, hc1⟩ := t_one_al w #[.int .i64 13, .int .i64 a, .int .i64 t, .int .i64 o, .int .i64 n, .string s, .slice K kids.length (kids.length + c)] 96
  have hB1 : Below B w w1 := hbb.mono hBw
  have hp1 := h.below hbb
  have hK1 : RdEs w1 (· < B) K 0 kids := RdEs.keep (w' := w1) (fun q hq => hB1.cell hq) _ _ _ hK
  have hk1 := KeepT.of_below hbb
  have hz : B ≤ w1.heap.size := by omega
  obtain ⟨c0, c1, c2, c3, c4, c5, c6, cf⟩ := t0_cells7 hc1
  have HB1 := Lib.hid (And.intro hB1 hk1)
  have hU := fun w' => upTo_any K kids.length c hn w'
  have hL := fun A1 (hA : 0 < kids.length → A1 = K) => list_any B b l ⟨#[99, 111, 108, 115, 40]⟩ ⟨#[41]⟩ A1 (kids.take 1) (kids.length + c) w1 hp1 (first_of hK1 hA) (smallEs_sub hS (fun e he => List.mem_of_mem_take he)) (fun e he => HE e (List.mem_of_mem_take he)) (by rw [List.length_take]; omega) (by rw [prEs_take]; exact hlen) hz
  rw [prEs_take, List.length_take] at hL
  simp only at hL
  clear hp1 hK1 hS HE hn hlen
  clear h hK hbb hz1 hk1 hB1
  go_enter Tryz.func92, Tryz.ntmps92
  go_upto_region 1 with fail
  rw [← hw1]
  clear hw1
  go_wp2_with (first
    | (go_at_call 102; refine (hU _).mono ?_; rintro e w' ⟨⟨A1, rfl, hA⟩, rfl⟩; have hL1 := hL A1 hA; clear hA hL)
    | (go_at_call 100; refine hL1.mono ?_; rintro e w3 ⟨rfl, hp, hb, hkp⟩; have HQ := Lib.hid hp; have HB3 := Lib.hid (And.intro (HB1.out.1.trans hb) (HB1.out.2.trans hkp)); clear hp hb hkp hL1))
  go_end0
  refine ⟨rfl, ?_, HB3.out.1, HB3.out.2⟩
  exact HQ.out
set_option maxRecDepth 100000 in
set_option maxHeartbeats 8000000 in
theorem expr_14 (B b : Nat) (l : List UInt8) (K : Option Addr) (c : Nat) (a t o n : Int) (s : ByteArray) (kids : List Ex) (w : World) (h : IsPr B b (Lib.byteCells l) w) (hK : RdEs w (· < B) K 0 kids) (hS : smallEs kids) (HE : ∀ e ∈ kids, ExPr e) (hn : kids.length ≤ 1099511627776)
    (hlen : l.length + (prK 14 o n s.data.toList (prEs kids)).length ≤ 1099511627776) (hBw : B ≤ w.heap.size) :
    Calls Tryz.prog 92 #[.pointer (some ⟨b, 0, none⟩), .agg #[.int .i64 14, .int .i64 a, .int .i64 t, .int .i64 o, .int .i64 n, .string s, .slice K kids.length (kids.length + c)]] w (PrS B b (l ++ prK 14 o n s.data.toList (prEs kids)) w) := by
  have hp : prK 14 o n s.data.toList (prEs kids) = [105, 110, 112, 117, 116] := by simp [prK]
  rw [hp] at hlen ⊢
  clear hp
  obtain ⟨w1, hw1, hbb, hz1, hc1⟩ := t_one_al w #[.int .i64 14, .int .i64 a, .int .i64 t, .int .i64 o, .int .i64 n, .string s, .slice K kids.length (kids.length + c)] 96
  have hB1 : Below B w w1 := hbb.mono hBw
  have hp1 := h.below hbb
  have hK1 : RdEs w1 (· < B) K 0 kids := RdEs.keep (w' := w1) (fun q hq => hB1.cell hq) _ _ _ hK
  have hk1 := KeepT.of_below hbb
  have hz : B ≤ w1.heap.size := by omega
  obtain ⟨c0, c1, c2, c3, c4, c5, c6, cf⟩ := t0_cells7 hc1
  have HB1 := Lib.hid (And.intro hB1 hk1)
  have HS := say1 B b l ⟨#[105, 110, 112, 117, 116]⟩ w1 hp1 (by exact hlen) hz
  clear hp1 hK1 hS HE hn hlen
  clear h hK hbb hz1 hk1 hB1
  go_enter Tryz.func92, Tryz.ntmps92
  go_upto_region 1 with fail
  rw [← hw1]
  clear hw1
  go_wp2_with (go_at_call 46; refine HS.mono ?_; rintro e w3 ⟨rfl, hp, hb, hkp⟩; have HQ := Lib.hid hp; have HB3 := Lib.hid (And.intro (HB1.out.1.trans hb) (HB1.out.2.trans hkp)); clear hp hb hkp HS)
  go_end0
  refine ⟨rfl, ?_, HB3.out.1, HB3.out.2⟩
  exact HQ.out
set_option maxRecDepth 100000 in
set_option maxHeartbeats 8000000 in
theorem expr_rest (B b : Nat) (l : List UInt8) (K : Option Addr) (c : Nat) (k a t o n : Int) (s : ByteArray) (m : Nat) (ks : List (List UInt8)) (h1 : k ≠ 1) (h2 : k ≠ 2) (h3 : k ≠ 3) (h4 : k ≠ 4) (h5 : k ≠ 5) (h6 : k ≠ 6) (h7 : k ≠ 7) (h8 : k ≠ 8) (h9 : k ≠ 9) (h10 : k ≠ 10) (h11 : k ≠ 11) (h12 : k ≠ 12) (h13 : k ≠ 13) (h14 : k ≠ 14) (w : World) (h : IsPr B b (Lib.byteCells l) w) (hBw : B ≤ w.heap.size) :
    Calls Tryz.prog 92 #[.pointer (some ⟨b, 0, none⟩), .agg #[.int .i64 k, .int .i64 a, .int .i64 t, .int .i64 o, .int .i64 n, .string s, .slice K m c]] w (PrS B b (l ++ prK k o n s.data.toList ks) w) := by
  have hp : prK k o n s.data.toList ks = [] := by simp [prK, h1, h2, h3, h4, h5, h6, h7, h8, h9, h10, h11, h12, h13, h14]
  rw [hp, List.append_nil]
  have b1 : (k == 1) = false := by simpa using h1
  have b2 : (k == 2) = false := by simpa using h2
  have b3 : (k == 3) = false := by simpa using h3
  have b4 : (k == 4) = false := by simpa using h4
  have b5 : (k == 5) = false := by simpa using h5
  have b6 : (k == 6) = false := by simpa using h6
  have b7 : (k == 7) = false := by simpa using h7
  have b8 : (k == 8) = false := by simpa using h8
  have b9 : (k == 9) = false := by simpa using h9
  have b10 : (k == 10) = false := by simpa using h10
  have b11 : (k == 11) = false := by simpa using h11
  have b12 : (k == 12) = false := by simpa using h12
  have b13 : (k == 13) = false := by simpa using h13
  have b14 : (k == 14) = false := by simpa using h14
  have H := Lib.hid h
  clear h hp h1 h2 h3 h4 h5 h6 h7 h8 h9 h10 h11 h12 h13 h14
  go_enter Tryz.func92, Tryz.ntmps92
  go_wp2
  go_end0
  have hb : Below w.heap.size w (w.alloc (.cells #[.int .i64 k, .int .i64 a, .int .i64 t, .int .i64 o, .int .i64 n, .string s, .slice K m c] 96)) := (Below.refl _ _).alloc (Nat.le_refl _) _
  exact ⟨rfl, H.out.below hb, hb.mono hBw, KeepT.of_below hb⟩
theorem exPr_of (k a t o n : Int) (s : ByteArray) (kids : List Ex) (hS : smallEs kids) (HE : ∀ e ∈ kids, ExPr e) : ExPr (.mk k a t o n s kids) := by
  intro B b l K c k' a' t' o' n' s' kids' he w h hK hlen hn hBw
  injection he with e1 e2 e3 e4 e5 e6 e7
  subst e1 e2 e3 e4 e5 e6 e7
  unfold prE at hlen ⊢
  by_cases h1 : k = 1
  · subst h1
    exact expr_1 B b l K c a t o n s kids w h hK hS HE hn hlen hBw
  by_cases h2 : k = 2
  · subst h2
    exact expr_2 B b l K c a t o n s kids w h hK hS HE hn hlen hBw
  by_cases h3 : k = 3
  · subst h3
    exact expr_3 B b l K c a t o n s kids w h hK hS HE hn hlen hBw
  by_cases h4 : k = 4
  · subst h4
    exact expr_4 B b l K c a t o n s kids w h hK hS HE hn hlen hBw
  by_cases h5 : k = 5
  · subst h5
    exact expr_5 B b l K c a t o n s kids w h hK hS HE hn hlen hBw
  by_cases h6 : k = 6
  · subst h6
    exact expr_6 B b l K c a t o n s kids w h hK hS HE hn hlen hBw
  by_cases h7 : k = 7
  · subst h7
    exact expr_7 B b l K c a t o n s kids w h hK hS HE hn hlen hBw
  by_cases h8 : k = 8
  · subst h8
    exact expr_8 B b l K c a t o n s kids w h hK hS HE hn hlen hBw
  by_cases h9 : k = 9
  · subst h9
    exact expr_9 B b l K c a t o n s kids w h hK hS HE hn hlen hBw
  by_cases h10 : k = 10
  · subst h10
    exact expr_10 B b l K c a t o n s kids w h hK hS HE hn hlen hBw
  by_cases h11 : k = 11
  · subst h11
    exact expr_11 B b l K c a t o n s kids w h hK hS HE hn hlen hBw
  by_cases h12 : k = 12
  · subst h12
    exact expr_12 B b l K c a t o n s kids w h hK hS HE hn hlen hBw
  by_cases h13 : k = 13
  · subst h13
    exact expr_13 B b l K c a t o n s kids w h hK hS HE hn hlen hBw
  by_cases h14 : k = 14
  · subst h14
    exact expr_14 B b l K c a t o n s kids w h hK hS HE hn hlen hBw
  exact expr_rest B b l K (kids.length + c) k a t o n s kids.length (prEs kids) h1 h2 h3 h4 h5 h6 h7 h8 h9 h10 h11 h12 h13 h14 w h hBw
end Go.Proofs.YtiadbeglhnocoaaGreatDoor
namespace Go.Proofs.YtiadbeglhnocoaaGreatDoor
set_option linter.unusedVariables false
set_option linter.unusedSimpArgs false
open Go.RowKit

mutual
theorem exPr_all : ∀ e : Ex, smallE e → ExPr e
  | .mk k a t o n s kids, h => by
    unfold smallE at h
    exact exPr_of k a t o n s kids h.2 (exPrs_all kids h.2)
theorem exPrs_all : ∀ l : List Ex, smallEs l → ∀ e ∈ l, ExPr e
  | [], _ => fun e he => by simp at he
  | x :: r, h => fun e he => by
    unfold smallEs at h
    rcases List.mem_cons.mp he with he | he
    · rw [he]
      exact exPr_all x h.1
    · exact exPrs_all r h.2 e he
end
/-- A printer that is new. -/
theorem isPr_new {B : Nat} {w : World} {g : Nat} (hg : w.heap[g]? = some (.cells #[.pointer none, .slice none 0 0] 45 (0, 0))) (hB : B ≤ g) : IsPr B g [] w :=
  Or.inl ⟨hB, .slice none 0 0, hg, World.ownsRow_nil _ _ _ _, by simp [Value.ownBlock]⟩
set_option maxRecDepth 100000 in
set_option maxHeartbeats 4000000 in
theorem Expr_any (e : Ex) (k a t o n : Int) (s : ByteArray) (kids : List Ex) (K : Option Addr) (c : Nat) (w : World) (he : e = .mk k a t o n s kids) (hs : smallE e) (hK : RdEs w (· < w.heap.size) K 0 kids) (hlen : (prE e).length ≤ 1099511627776) (h0 : prE e ≠ []) :
    Calls Tryz.prog 79 #[.agg #[.int .i64 k, .int .i64 a, .int .i64 t, .int .i64 o, .int .i64 n, .string s, .slice K kids.length (kids.length + c)]] w fun e' w' => e' = .returned (.string ⟨(prE e).toArray⟩) ∧ Below w.heap.size w w' := by
  obtain ⟨w1, hw1, hb1, hz1, hc1⟩ := t_one_al w #[.int .i64 k, .int .i64 a, .int .i64 t, .int .i64 o, .int .i64 n, .string s, .slice K kids.length (kids.length + c)] 96
  obtain ⟨w2, hw2, hb2, hz2, hc2⟩ := t_one_al w1 #[.pointer none, .slice none 0 0] 45
  have hb12 : Below w.heap.size w w2 := hb1.trans (hb2.mono (by omega))
  have hsm := hs
  rw [he] at hsm
  unfold smallE at hsm
  have hX := exPr_all e hs w.heap.size w1.heap.size [] K c k a t o n s kids he w2 (isPr_new hc2 (by omega)) (RdEs.keep (w' := w2) (fun q hq => hb12.cell hq) _ _ _ hK) (by simpa using hlen) hsm.1 (by omega)
  rw [List.nil_append] at hX
  obtain ⟨c0, c1, c2, c3, c4, c5, c6, cf⟩ := t0_cells7 ((hb2.block w.heap.size (by omega)).trans hc1)
  have hSt := fun w' (hp : IsPr w.heap.size w1.heap.size (Lib.byteCells (prE e)) w') => string_any w.heap.size w1.heap.size (prE e) w' hp h0
  have Hb12 := Lib.hid hb12
  obtain ⟨pe, hpe⟩ : ∃ pe, pe = prE e := ⟨_, rfl⟩
  rw [← hpe] at hX hSt ⊢
  have hz : w.heap.size < w1.heap.size := by omega
  clear hb1 hb2 hz1 hz2 hc1 hc2 hb12 hsm he hs hK hlen h0 hpe
  go_enter Tryz.func79, Tryz.ntmps79
  go_upto_region 1 with fail
  rw [← hw1]
  clear hw1
  go_upto_region 2 with fail
  rw [← hw2]
  clear hw2
  go_wp2_with (first
    | (go_at_call 92; refine hX.mono ?_; rintro e' w3 ⟨rfl, hp, hb, hkp⟩; have hS3 := hSt w3 hp; have HB := Lib.hid (Hb12.out.trans hb); clear hp hb hkp hX hSt)
    | (go_at_call 12; refine hS3.mono ?_; rintro e' w4 ⟨rfl, hb⟩; have HB4 := Lib.hid (HB.out.trans hb); clear hb hS3))
  go_ret
  exact ⟨rfl, HB4.out⟩
/-- What kid comes to. -/
def KidP (w : World) (kids : List Ex) (i : Nat) (e : Ending) (w' : World) : Prop := e = .returned (.string ⟨(kidP kids i).toArray⟩) ∧ Below w.heap.size w w'
set_option maxRecDepth 100000 in
set_option maxHeartbeats 4000000 in
theorem kid_any (kids : List Ex) (i : Nat) (K : Option Addr) (c : Nat) (w : World) (hs : smallEs kids) (hK : RdEs w (· < w.heap.size) K 0 kids) (hn : kids.length ≤ 1099511627776) (hi : i ≤ 1099511627776) (hlen : (kidP kids i).length ≤ 1099511627776) (h0 : ∀ e ∈ kids, prE e ≠ []) :
    Calls Tryz.prog 65 #[.slice K kids.length c, .int .i64 i] w (KidP w kids i) := by
  by_cases hlt : i < kids.length
  · obtain ⟨e, he⟩ : ∃ e, kids[i]? = some e := ⟨_, List.getElem?_eq_getElem hlt⟩
    have hkp : kidP kids i = prE e := by unfold kidP; rw [he]
    unfold KidP
    rw [hkp] at hlen ⊢
    have hmem := List.mem_of_getElem? he
    obtain ⟨g, q, rfl, hg, hE⟩ := hK.at_ he
    obtain ⟨ek, ea, et, eo, en, es, ekids⟩ := e
    unfold RdE at hE
    obtain ⟨x0, x1, x2, x3, x4, x5, EK, ec, x6, hEK⟩ := hE
    rw [Nat.zero_add] at x0 x1 x2 x3 x4 x5 x6
    rw [Nat.add_zero] at x0
    have hX := Expr_any (.mk ek ea et eo en es ekids) ek ea et eo en es ekids EK ec w rfl (smallEs_mem hs _ hmem) hEK hlen (h0 _ hmem)
    obtain ⟨pe, hpe⟩ : ∃ pe, pe = prE (.mk ek ea et eo en es ekids) := ⟨_, rfl⟩
    rw [← hpe] at hX ⊢
    have hgz : g < w.heap.size := hg
    obtain ⟨m, hm⟩ : ∃ m, m = kids.length := ⟨_, rfl⟩
    rw [← hm] at hlt hn ⊢
    clear hpe hkp hmem hEK he hlen h0 hs hK hm
    go_enter Tryz.func65, Tryz.ntmps65
    by_cases hi0 : i = 0
    · subst hi0
      rw [Nat.zero_mul, Nat.add_zero] at x0 x1 x2 x3 x4 x5 x6
      go_wp2_with (go_at_call 79; refine hX.mono ?_; rintro e' w3 ⟨rfl, hb⟩; have HB := Lib.hid hb; clear hb hX)
      go_ret
      exact ⟨rfl, HB.out⟩
    · go_wp2_with (go_at_call 79; refine hX.mono ?_; rintro e' w3 ⟨rfl, hb⟩; have HB := Lib.hid hb; clear hb hX)
      go_ret
      exact ⟨rfl, HB.out⟩
  · have hkp : kidP kids i = [] := by unfold kidP; rw [List.getElem?_eq_none (by omega)]
    unfold KidP
    rw [hkp]
    obtain ⟨m, hm⟩ : ∃ m, m = kids.length := ⟨_, rfl⟩
    rw [← hm] at hlt hn ⊢
    have hge : m ≤ i := by omega
    clear hkp hm hlt hs hK hlen h0
    go_enter Tryz.func65, Tryz.ntmps65
    go_wp2
    go_ret
    exact ⟨rfl, Below.refl _ _⟩
set_option maxHeartbeats 4000000 in
theorem pstep_any (n : Int) (w : World) : Calls Tryz.prog 67 #[.int .i64 n] w fun e w' => e = .returned (.string ⟨(stepB n).toArray⟩) ∧ Below w.heap.size w w' := by
  have HD := fun m w' => digits_any m (u64M m) (u64M_wrap m) (u64M_lt m) w'
  have hdl : ∀ m, (Lib.decDigits (u64M m)).length ≤ 20 := fun m => by
    rw [Lib.decDigits_length]
    exact Lib.nDigits_le20 _ (u64M_lt m)
  unfold stepB digM
  by_cases h1 : n = 1
  · have hb : (n == 1) = true := by simp [h1]
    rw [if_pos h1]
    clear h1 HD hdl
    go_enter Tryz.func67, Tryz.ntmps67
    go_wp2
    go_ret
    exact ⟨rfl, Below.refl _ _⟩
  · have hb : (n == 1) = false := by simpa using h1
    rw [if_neg h1]
    by_cases h2 : n < 0
    · rw [if_pos h2]
      have hb2 : decide (n < 0) = true := by simpa using h2
      have HD1 := HD (wrap64 (-n))
      have hl := hdl (wrap64 (-n))
      obtain ⟨ds, hds⟩ : ∃ ds, ds = Lib.decDigits (u64M (wrap64 (-n))) := ⟨_, rfl⟩
      rw [← hds] at HD1 hl ⊢
      have hsz : (⟨ds.toArray⟩ : ByteArray).size ≤ 20 := by show ds.toArray.size ≤ 20; simpa using hl
      clear h1 h2 HD hdl hds
      go_enter Tryz.func67, Tryz.ntmps67
      go_wp2_with (go_at_call 80; refine (HD1 _).mono ?_; rintro e w1 ⟨rfl, hb⟩; have HB := Lib.hid hb; clear hb HD1)
      go_ret
      exact ⟨by rfl, HB.out⟩
    · rw [if_neg h2]
      have hb2 : decide (n < 0) = false := by simpa using h2
      have HD1 := HD n
      have hl := hdl n
      obtain ⟨ds, hds⟩ : ∃ ds, ds = Lib.decDigits (u64M n) := ⟨_, rfl⟩
      rw [← hds] at HD1 hl ⊢
      have hsz : (⟨ds.toArray⟩ : ByteArray).size ≤ 20 := by show ds.toArray.size ≤ 20; simpa using hl
      clear h1 h2 HD hdl hds
      go_enter Tryz.func67, Tryz.ntmps67
      go_wp2_with (go_at_call 80; refine (HD1 _).mono ?_; rintro e w1 ⟨rfl, hb⟩; have HB := Lib.hid hb; clear hb HD1)
      go_ret
      exact ⟨by rfl, HB.out⟩
theorem typeA_size (t : Int) : (typeA t).size ≤ 7 := by
  unfold typeA nameAt
  split
  · decide
  · have : ∀ k : Nat, (typeL.getD k ⟨#[]⟩).size ≤ 7 := fun k => by
      by_cases hk : k < 5
      · have h : ∀ k : Fin 5, (typeL.getD k.val ⟨#[]⟩).size ≤ 7 := by decide +kernel
        exact h ⟨k, hk⟩
      · have : typeL.length ≤ k := by have : typeL.length = 5 := rfl; omega
        rw [List.getD_eq_getElem?_getD, List.getElem?_eq_none this]
        decide
    exact this _
set_option maxHeartbeats 4000000 in
theorem result_any (t : Int) (w : World) : Calls Tryz.prog 24 #[.int .i64 t] w fun e w' => e = .returned (.string ⟨(resB t).toArray⟩) ∧ w = w' := by
  unfold resB typB
  by_cases h1 : t = 0
  · have hb : (t == 0) = true := by simp [h1]
    rw [if_pos h1]
    clear h1
    go_enter Tryz.func24, Tryz.ntmps24
    go_wp2
    go_ret
    exact ⟨rfl, rfl⟩
  · have hb : (t == 0) = false := by simpa using h1
    rw [if_neg h1]
    have HT := fun w' => type_any t w'
    have hsz := typeA_size t
    obtain ⟨ty, hty⟩ : ∃ ty, ty = typeA t := ⟨_, rfl⟩
    rw [← hty] at HT hsz ⊢
    clear h1 hty
    go_enter Tryz.func24, Tryz.ntmps24
    go_wp2_with (go_at_call 21; refine (HT _).mono ?_; rintro e w' ⟨rfl, rfl⟩)
    go_ret
    refine ⟨?_, rfl⟩
    congr 2
end Go.Proofs.YtiadbeglhnocoaaGreatDoor
namespace Go.Proofs.YtiadbeglhnocoaaGreatDoor
set_option linter.unusedVariables false
set_option linter.unusedSimpArgs false
open Go.RowKit

/-- Kids that can be printed one by one. -/
def goodK (kids : List Ex) : Prop := smallEs kids ∧ kids.length ≤ 1099511627776 ∧ (∀ e ∈ kids, prE e ≠ []) ∧ (kidP kids 0).length ≤ 1099511627776 ∧ (kidP kids 1).length ≤ 1099511627776
/-- A statement is printed so. -/
def StPr (x : St) : Prop := ∀ (B b : Nat) (l : List UInt8) (d : Nat) (K : Option Addr) (c : Nat) (k a n : Int) (z : ByteArray) (p : Int) (kids : List Ex) (Bd : Option Addr) (bc : Nat) (body : List St) (E : Option Addr) (ec : Nat) (els : List St), x = .mk k a n z p kids body els → ∀ w : World, IsPr B b (Lib.byteCells l) w → RdEs w (· < B) K 0 kids → RdSs w (· < B) Bd 0 body → RdSs w (· < B) E 0 els → l.length + (prS d x).length ≤ 1099511627776 → B ≤ w.heap.size → d ≤ 1099511627776 →
  Calls Tryz.prog 49 #[.pointer (some ⟨b, 0, none⟩), .agg #[.int .i64 k, .int .i64 a, .int .i64 n, .string z, .int .i64 p, .slice K kids.length c, .slice Bd body.length bc, .slice E els.length ec], .int .i64 d] w (PrS B b (l ++ prS d x) w)
/-- A line, of words in a row that was made for them. -/
theorem line1 (B b : Nat) (l : List UInt8) (d : Nat) (ws : List (List UInt8)) (row : Array Value) (w : World) (hrow : row = (ws.map stV).toArray) (h : IsPr B b (Lib.byteCells l) w) (hn : ws.length ≤ 100) (hlen : l.length + (lnP d ws).length ≤ 1099511627776) (hBw : B ≤ w.heap.size) :
    Calls Tryz.prog 22 #[.pointer (some ⟨b, 0, none⟩), .int .i64 d, .slice (some ⟨w.heap.size, 0, none⟩) ws.length ws.length] (w.alloc (.cells row 9)) (PrS B b (l ++ lnP d ws) w) := by
  have h0 : Below w.heap.size w (w.alloc (.cells row 9)) := (Below.refl _ _).alloc (Nat.le_refl _) _
  exact (line_any B b l d ws w.heap.size (w.alloc (.cells row 9)) (h.alloc _) (by rw [← hrow]; exact heap_alloc_new w _) hn hlen (by simp; omega)).mono (fun _ _ hp => hp.mono (h0.mono hBw) (KeepT.of_below h0))
theorem p_cells8 {w : World} {b : Nat} {v0 v1 v2 v3 v4 v5 v6 v7 : Value} {T : TypeId} (h : w.heap[b]? = some (.cells #[v0, v1, v2, v3, v4, v5, v6, v7] T (0, 0))) : w.cell? ⟨b, 0, none⟩ = some v0 ∧ w.cell? ⟨b, 1, none⟩ = some v1 ∧ w.cell? ⟨b, 2, none⟩ = some v2 ∧ w.cell? ⟨b, 3, none⟩ = some v3 ∧ w.cell? ⟨b, 4, none⟩ = some v4 ∧ w.cell? ⟨b, 5, none⟩ = some v5 ∧ w.cell? ⟨b, 6, none⟩ = some v6 ∧ w.cell? ⟨b, 7, none⟩ = some v7 ∧ ∀ j, w.frozen? ⟨b, j, none⟩ = false :=
  ⟨Lib.cell_of_heap h 0, Lib.cell_of_heap h 1, Lib.cell_of_heap h 2, Lib.cell_of_heap h 3, Lib.cell_of_heap h 4, Lib.cell_of_heap h 5, Lib.cell_of_heap h 6, Lib.cell_of_heap h 7, fun j => Lib.frozen_of_heap h j⟩
theorem prSs_snoc (d : Nat) (l : List St) (k : Nat) (hk : k < l.length) : prSs d (l.take (k + 1)) = prSs d (l.take k) ++ prS d l[k] := by
  have h : ∀ (r : List St) (x : St), prSs d (r ++ [x]) = prSs d r ++ prS d x := fun r x => by
    induction r with
    | nil => simp [prSs]
    | cons y r ih => simp only [List.cons_append, prSs, ih, List.append_assoc]
  rw [List.take_succ_eq_append_getElem hk, h]
theorem prSs_take_le (d : Nat) (l : List St) (k : Nat) : (prSs d (l.take k)).length ≤ (prSs d l).length := by
  induction l generalizing k with
  | nil => simp
  | cons x r ih =>
    cases k with
    | zero => simp [prSs]
    | succ k =>
      have := ih k
      simp only [List.take_succ_cons, prSs, List.length_append]
      omega
set_option maxRecDepth 100000 in
set_option maxHeartbeats 8000000 in
theorem block_any2 (B b : Nat) (l : List UInt8) (d : Nat) (A : Option Addr) (ss : List St) (x : Nat) (w : World) (h : IsPr B b (Lib.byteCells l) w) (hR : RdSs w (· < B) A 0 ss) (HS : ∀ s ∈ ss, StPr s) (hn : ss.length ≤ 1099511627776) (hlen : l.length + (prSs d ss).length ≤ 1099511627776) (hBw : B ≤ w.heap.size) (hd : d ≤ 1099511627776) :
    Calls Tryz.prog 25 #[.pointer (some ⟨b, 0, none⟩), .slice A ss.length x, .int .i64 d] w (PrS B b (l ++ prSs d ss) w) := by
  have H := Lib.hid h
  have HR0 := Lib.hid hR
  have HHS := Lib.hid HS
  obtain ⟨n, hnn⟩ : ∃ n, n = ss.length := ⟨_, rfl⟩
  have Hn := Lib.hid hnn
  have Hlen := Lib.hid hlen
  rw [← hnn] at hn ⊢
  clear h hR HS hnn hlen
  go_enter Tryz.func25, Tryz.ntmps25
  go_wp2
  go_loopw [10] (fun i wr => ∃ k : Nat, k ≤ n ∧ i = .int .i64 k ∧ Hid (IsPr B b (Lib.byteCells (l ++ prSs d (ss.take k))) wr ∧ Below B w wr ∧ KeepT w wr)) (fun i _ => n - (intOf i).toNat)
  case atStart => exact ⟨0, Nat.zero_le _, rfl, Lib.hid ⟨by simpa [prSs] using H.out, Below.refl _ _, KeepT.refl _⟩⟩
  case round =>
    obtain ⟨k, hk, rfl, HR⟩ := hrel
    have hz : B ≤ wr.heap.size := Nat.le_trans hBw HR.out.2.1.size
    by_cases hlt : k < n
    · have hkl : k < ss.length := by rw [← Hn.out]; exact hlt
      obtain ⟨e, he⟩ : ∃ e, ss[k]? = some e := ⟨_, List.getElem?_eq_getElem hkl⟩
      have heq : ss[k] = e := by rw [List.getElem?_eq_getElem hkl] at he; exact Option.some.inj he
      have hmem : e ∈ ss := List.mem_of_getElem? he
      obtain ⟨g, q, rfl, hg, hE⟩ := HR0.out.at_ he
      have hEp := HHS.out e hmem
      have hjt := prSs_snoc d ss k hkl
      have hjl := prSs_take_le d ss (k + 1)
      rw [heq] at hjt
      obtain ⟨zk, za, zn, zz, zp, zkids, zbody, zels⟩ := e
      unfold RdS at hE
      obtain ⟨x0, x1, x2, x3, x4, ⟨K, kc, x5, hK⟩, ⟨Bd, bc, x6, hBd⟩, ⟨E, ec, x7, hE⟩⟩ := hE
      rw [Nat.zero_add] at x0 x1 x2 x3 x4 x5 x6 x7
      have up : ∀ j u, w.cell? ⟨g, j, none⟩ = some u → wr.cell? ⟨g, j, none⟩ = some u := fun j u e => (HR.out.2.1.cell (p := ⟨g, j, none⟩) hg).trans e
      replace x0 := up _ _ x0
      replace x1 := up _ _ x1
      replace x2 := up _ _ x2
      replace x3 := up _ _ x3
      replace x4 := up _ _ x4
      replace x5 := up _ _ x5
      replace x6 := up _ _ x6
      replace x7 := up _ _ x7
      rw [Nat.add_zero] at x0
      obtain ⟨wb, hwb, hbb, hzb, hcb⟩ := t_one_al wr #[.int .i64 zk, .int .i64 za, .int .i64 zn, .string zz, .int .i64 zp, .slice K zkids.length kc, .slice Bd zbody.length bc, .slice E zels.length ec] 77
      have hpb := HR.out.1.below hbb
      have hbbB : Below B w wb := HR.out.2.1.trans (hbb.mono hz)
      have hkb : KeepT w wb := HR.out.2.2.trans (KeepT.of_below hbb)
      have hX1 := hEp B b (l ++ prSs d (ss.take k)) d K kc zk za zn zz zp zkids Bd bc zbody E ec zels rfl wb hpb (RdEs.keep (w' := wb) (fun p hp => hbbB.cell hp) _ _ _ hK) (RdSs.keep (w' := wb) (fun p hp => hbbB.cell hp) _ _ _ hBd) (RdSs.keep (w' := wb) (fun p hp => hbbB.cell hp) _ _ _ hE) (by have := Hlen.out; rw [hjt, List.length_append] at hjl; rw [List.length_append]; omega) (by omega) hd
      obtain ⟨pe, hpe⟩ : ∃ pe, pe = prS d (.mk zk za zn zz zp zkids zbody zels) := ⟨_, rfl⟩
      rw [← hpe] at hX1 hjt
      have Hjt := Lib.hid hjt
      obtain ⟨y0, y1, y2, y3, y4, y5, y6, y7, yf⟩ := p_cells8 hcb
      have HB2 := Lib.hid (show Below B w wb ∧ KeepT w wb from ⟨hbbB, hkb⟩)
      clear he heq hmem hEp hjt hjl hpe hK hBd hE up hpb hbbB hkb hcb hbb hzb
      by_cases hk0 : k = 0
      · subst hk0
        rw [Nat.zero_mul, Nat.add_zero] at x0 x1 x2 x3 x4 x5 x6 x7
        go_upto_region 3 with fail
        rw [← hwb]
        clear hwb x0 x1 x2 x3 x4 x5 x6 x7
        go_wp2_with (go_at_call 49; refine hX1.mono ?_; rintro e w2 ⟨rfl, hp, hb, hkp⟩; have HP := Lib.hid (show IsPr B b (Lib.byteCells (l ++ prSs d (ss.take 1))) w2 ∧ Below B w w2 ∧ KeepT w w2 from ⟨by rw [Hjt.out, ← List.append_assoc]; exact hp, HB2.out.1.trans hb, HB2.out.2.trans hkp⟩); clear hp hb hkp hX1)
        go_roundw
        case rel => exact ⟨1, by omega, by go_num, HP⟩
        case measure => simp [intOf]; omega
      · go_upto_region 3 with fail
        rw [← hwb]
        clear hwb x0 x1 x2 x3 x4 x5 x6 x7
        go_wp2_with (go_at_call 49; refine hX1.mono ?_; rintro e w2 ⟨rfl, hp, hb, hkp⟩; have HP := Lib.hid (show IsPr B b (Lib.byteCells (l ++ prSs d (ss.take (k + 1)))) w2 ∧ Below B w w2 ∧ KeepT w w2 from ⟨by rw [Hjt.out, ← List.append_assoc]; exact hp, HB2.out.1.trans hb, HB2.out.2.trans hkp⟩); clear hp hb hkp hX1)
        go_roundw
        case rel => exact ⟨k + 1, by omega, by go_num, HP⟩
        case measure => simp [intOf]; omega
    · obtain rfl : k = n := by omega
      have hR := HR.out
      rw [Hn.out, List.take_length] at hR
      have HR2 := Lib.hid hR
      clear hR hlt HR
      go_wp2
      go_end0
      exact ⟨rfl, HR2.out⟩
set_option maxRecDepth 100000 in
set_option maxHeartbeats 8000000 in
theorem otherwise_any2 (B b : Nat) (l : List UInt8) (d : Nat) (A : Option Addr) (ss : List St) (x : Nat) (w : World) (h : IsPr B b (Lib.byteCells l) w) (hR : RdSs w (· < B) A 0 ss) (HS : ∀ s ∈ ss, StPr s) (hn : ss.length ≤ 1099511627776) (hlen : l.length + (if ss.isEmpty = true then ([] : List UInt8) else lnP d [[125, 32, 101, 108, 115, 101, 32, 123]] ++ prSs (d + 1) ss).length ≤ 1099511627776) (hBw : B ≤ w.heap.size) (hd : d + 1 ≤ 1099511627776) :
    Calls Tryz.prog 66 #[.pointer (some ⟨b, 0, none⟩), .slice A ss.length x, .int .i64 d] w (PrS B b (l ++ (if ss.isEmpty = true then ([] : List UInt8) else lnP d [[125, 32, 101, 108, 115, 101, 32, 123]] ++ prSs (d + 1) ss)) w) := by
  by_cases h0 : ss = []
  · subst h0
    simp only [List.isEmpty_nil, if_true, List.append_nil] at hlen ⊢
    have H := Lib.hid h
    clear h hR HS hlen
    go_enter Tryz.func66, Tryz.ntmps66
    go_wp2
    go_end0
    exact ⟨rfl, H.out, Below.refl _ _, KeepT.refl _⟩
  · have hpos : 0 < ss.length := List.length_pos_iff.mpr h0
    have hemp : ss.isEmpty = false := by cases ss; exact absurd rfl h0; rfl
    rw [hemp] at hlen ⊢
    simp only [Bool.false_eq_true, if_false] at hlen ⊢
    rw [List.length_append] at hlen
    have hL := line1 B b l d [[125, 32, 101, 108, 115, 101, 32, 123]] _ w rfl h (by simp) (by omega) hBw
    have hB := fun w2 (hp : IsPr B b (Lib.byteCells (l ++ lnP d [[125, 32, 101, 108, 115, 101, 32, 123]])) w2) (hb : Below B w w2) => block_any2 B b (l ++ lnP d [[125, 32, 101, 108, 115, 101, 32, 123]]) (d + 1) A ss x w2 hp (RdSs.keep (w' := w2) (fun q hq => hb.cell hq) _ _ _ hR) HS hn (by rw [List.length_append]; omega) (Nat.le_trans hBw hb.size) hd
    obtain ⟨p1, hp1⟩ : ∃ p1, p1 = lnP d [[125, 32, 101, 108, 115, 101, 32, 123]] := ⟨_, rfl⟩
    obtain ⟨p2, hp2⟩ : ∃ p2, p2 = prSs (d + 1) ss := ⟨_, rfl⟩
    obtain ⟨m, hm⟩ : ∃ m, m = ss.length := ⟨_, rfl⟩
    rw [← hp1] at hL hB ⊢
    rw [← hp2] at hB ⊢
    rw [← hm] at hB hpos hn ⊢
    have hcast : ((d + 1 : Nat) : Int) = (d : Int) + 1 := by omega
    rw [hcast] at hB
    have hdm : decide ((0 : Int) < (m : Int)) = true := by simp; omega
    simp only [List.map_cons, List.map_nil, stV] at hL
    clear hp1 hp2 hm hemp h0 h hR HS hlen hcast
    go_enter Tryz.func66, Tryz.ntmps66
    go_wp2_with (first
      | (go_at_call 22; refine hL.mono ?_; rintro e w2 ⟨rfl, hp, hb, hkp⟩; have hB2 := hB w2 hp hb; have HB2 := Lib.hid (And.intro hb hkp); clear hp hb hkp hL hB)
      | (go_at_call 25; refine hB2.mono ?_; rintro e w3 ⟨rfl, hp, hb, hkp⟩; have HQ := Lib.hid hp; have HB3 := Lib.hid (And.intro (HB2.out.1.trans hb) (HB2.out.2.trans hkp)); clear hp hb hkp hB2))
    go_end0
    refine ⟨rfl, ?_, HB3.out.1, HB3.out.2⟩
    rw [← List.append_assoc]
    exact HQ.out
set_option maxRecDepth 100000 in
set_option maxHeartbeats 8000000 in
theorem back_any (B b : Nat) (l : List UInt8) (d : Nat) (K : Option Addr) (c : Nat) (kids : List Ex) (w : World) (h : IsPr B b (Lib.byteCells l) w) (hK : RdEs w (· < B) K 0 kids) (hg : goodK kids) (hlen : l.length + (if kids.isEmpty = true then lnP d [[114, 101, 116, 117, 114, 110, 59]] else lnP d [[114, 101, 116, 117, 114, 110, 32], kidP kids 0, [59]]).length ≤ 1099511627776) (hBw : B ≤ w.heap.size) :
    Calls Tryz.prog 68 #[.pointer (some ⟨b, 0, none⟩), .slice K kids.length c, .int .i64 d] w (PrS B b (l ++ (if kids.isEmpty = true then lnP d [[114, 101, 116, 117, 114, 110, 59]] else lnP d [[114, 101, 116, 117, 114, 110, 32], kidP kids 0, [59]])) w) := by
  by_cases h0 : kids = []
  · subst h0
    simp only [List.isEmpty_nil, if_true] at hlen ⊢
    have hL := line1 B b l d [[114, 101, 116, 117, 114, 110, 59]] _ w rfl h (by simp) hlen hBw
    simp only [List.map_cons, List.map_nil, stV] at hL
    clear h hK hlen hg
    go_enter Tryz.func68, Tryz.ntmps68
    go_wp2_with (go_at_call 22; refine hL.mono ?_; rintro e w2 hp; have HP := Lib.hid hp; obtain ⟨rfl, _⟩ := hp; clear hL)
    first | go_end0 | refine bodyPost_ret (results_none rfl _ _ _) rfl ?_
    exact HP.out
  · have hpos : 0 < kids.length := List.length_pos_iff.mpr h0
    have hemp : kids.isEmpty = false := by cases kids; exact absurd rfl h0; rfl
    rw [hemp] at hlen ⊢
    simp only [Bool.false_eq_true, if_false] at hlen ⊢
    have hKd := kid_any kids 0 K c w hg.1 (RdEs.more (fun b hb => Nat.lt_of_lt_of_le hb hBw) _ _ _ hK) hg.2.1 (by omega) hg.2.2.2.1 hg.2.2.1
    have hL := fun w2 (hb : Below w.heap.size w w2) => line1 B b l d [[114, 101, 116, 117, 114, 110, 32], kidP kids 0, [59]] _ w2 rfl (h.below hb) (by simp) hlen (Nat.le_trans hBw hb.size)
    obtain ⟨k0, hk0⟩ : ∃ k0, k0 = kidP kids 0 := ⟨_, rfl⟩
    unfold KidP at hKd
    rw [← hk0] at hKd hL ⊢
    obtain ⟨m, hm⟩ : ∃ m, m = kids.length := ⟨_, rfl⟩
    rw [← hm] at hKd hpos ⊢
    have hmz : ((m : Int) == 0) = false := beq_eq_false_iff_ne.mpr (by omega)
    simp only [List.map_cons, List.map_nil, stV] at hL
    clear hm hk0 hemp h0 h hK hg hlen
    go_enter Tryz.func68, Tryz.ntmps68
    go_wp2_with (first
      | (go_at_call 65; refine hKd.mono ?_; rintro e w2 ⟨rfl, hb⟩; have hL2 := hL w2 hb; have HB2 := Lib.hid hb; clear hb hL hKd)
      | (go_at_call 22; refine hL2.mono ?_; rintro e w3 hp; have HP := Lib.hid (hp.mono (HB2.out.mono hBw) (KeepT.of_below HB2.out)); obtain ⟨rfl, _⟩ := hp; clear hL2))
    first | go_end0 | refine bodyPost_ret (results_none rfl _ _ _) rfl ?_
    exact HP.out
end Go.Proofs.YtiadbeglhnocoaaGreatDoor
