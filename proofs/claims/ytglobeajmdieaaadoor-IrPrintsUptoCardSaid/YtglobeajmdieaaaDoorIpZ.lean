/-
  strconv.AppendInt at base 10, behind rows of bytes of which no cell is frozen.
-/
import Derived.Test.YtglobeajmdieaaaDoorIpY
namespace Go.Proofs.YtglobeajmdieaaaDoor
open Go.RowKit Go.Sort
set_option linter.unusedVariables false
set_option linter.unusedSimpArgs false

theorem appU_any (B n u : Nat) (hu64 : u < 18446744073709551616) (sv : Value) (xs : List Value) (w : World) (h : OwnX w B 5 sv n xs) (hB : B ≤ w.heap.size) (hlim : n + 20 ≤ 140737488355328) (htab : Lib.TabIs Tryd.prog w "internal/strconv.uint64pow10" .u64 Lib.pow10Tab) :
    Calls Tryd.prog 38 #[sv, .int .u64 u, .int .i64 10] w (XPost B n xs w (Lib.decDigits u)) := by
  by_cases hu : u < 100
  · exact appU_small B n u hu sv xs w h hB hlim
  · exact appU_big B n u (by omega) hu64 sv xs w h hB hlim htab

set_option maxHeartbeats 8000000 in
set_option maxRecDepth 100000 in
theorem appI_in (B n : Nat) (i : Int) (h0 : -9223372036854775808 ≤ i) (h1 : i ≤ 9223372036854775807) (sv : Value) (xs : List Value) (w : World) (h : OwnX w B 5 sv n xs) (hB : B ≤ w.heap.size) (hlim : n + 21 ≤ 140737488355328) (htab : Lib.TabBelow Tryd.prog B w "internal/strconv.uint64pow10" .u64 Lib.pow10Tab) :
    Calls Tryd.prog 30 #[sv, .int .i64 i, .int .i64 10] w (XPost B n xs w (Lib.itoa i)) := by
  obtain ⟨i0, hi0, hz0, hz1, hz2⟩ := info_parts infoByte
  by_cases hneg : i < 0
  · obtain ⟨u, rfl⟩ : ∃ u : Nat, i = -(u : Int) := ⟨i.natAbs, by omega⟩
    have hu1 : 1 ≤ u := by omega
    have hu64 : u < 18446744073709551616 := by omega
    have hwr : IntKind.u64.wrap (-IntKind.u64.wrap (-(u : Int))) = (u : Int) := by rw [IntKind.wrap_u64, IntKind.wrap_u64]; omega
    rw [Lib.itoa_neg u hu1]
    obtain ⟨A, hA, hbA, hzA, h0A⟩ := r_one_al w #[.int .u8 45] 5
    have HOW := Lib.hid (h.keep hbA)
    have HNW := Lib.hid (World.news_of_block h0A)
    have HOn : Hid (∀ u ∈ ([.int .u8 45] : List Value), u.oneCell' = true) := Lib.hid (by intro u hu; simp at hu; subst hu; rfl)
    have hsz : B ≤ A.heap.size := by omega
    have HOA := Lib.hid (h.keep hbA)
    have HbA := Lib.hid hbA
    have Hsz := Lib.hid hsz
    rw [hA] at HOW HNW hsz
    have HA := Lib.hid hA
    have Htab := Lib.hid htab
    have Hi := Lib.hid hi0
    have Hz0 := Lib.hid hz0
    have Hz1 := Lib.hid hz1
    have Hz2 := Lib.hid hz2
    clear hA hbA hzA h0A h htab hi0 hz0 hz1 hz2
    go_enter Tryd.func30, Tryd.ntmps30
    go_wp2_with (at_builtin; refine wpList_appendX _ rfl (.tmp 12) (.tmp 13) 37 rfl B 5 i0 Tryd.underlying37 Hi.out Hz0.out Hz1.out Hz2.out sv n xs rfl HOW.out hsz ⟨w.heap.size, 0, none⟩ 1 1 [.int .u8 45] rfl rfl HNW.out HOn.out (by omega) ?_)
    intro v1 w1 ho hg
    rw [← HA.out] at hg
    clear HOW HNW hsz
    have hB1 : Below B w w1 := (HbA.out.mono hB).grown hg Hsz.out (fun g' e => (HOA.out.lt g' e).1)
    have hK1 : Lib.OthersKept 5 none w w1 := (kept_below (T := 5) HbA.out).grown hg HOA.out.row
    have hU := appU_any B (n + 1) u hu64 v1 (xs ++ [.int .u8 45]) w1 ho (Nat.le_trans hB hB1.size) (by omega) (Htab.out w1 hB1)
    have HB1 := Lib.hid hB1
    have HK1 := Lib.hid hK1
    clear ho hg hB1 hK1
    go_wp2_with (go_at_call 38; refine hU.mono ?_; rintro e w2 ⟨v2, rfl, ho2, hb2, hk2⟩; have hend := Lib.hid (And.intro ho2 (And.intro (HB1.out.trans hb2) (HK1.out.trans hk2))); clear ho2 hb2 hk2 hU)
    go_ret
    refine ⟨v2, rfl, ?_, hend.out.2.1, hend.out.2.2⟩
    have e1 : n + (45 :: Lib.decDigits u).length = n + 1 + (Lib.decDigits u).length := by simp; omega
    have e2 : xs ++ Lib.byteCells (45 :: Lib.decDigits u) = xs ++ [Value.int .u8 45] ++ Lib.byteCells (Lib.decDigits u) := by simp [Lib.byteCells]
    rw [e1, e2]
    exact hend.out.1
  · obtain ⟨u, rfl⟩ : ∃ u : Nat, i = u := ⟨i.toNat, by omega⟩
    have hu64 : u < 18446744073709551616 := by omega
    rw [Lib.itoa_nonneg]
    have hU := appU_any B n u hu64 sv xs w h hB (by omega) htab.here
    clear h htab hi0 hz0 hz1 hz2
    go_enter Tryd.func30, Tryd.ntmps30
    go_wp2_with (go_at_call 38; refine hU.mono ?_; rintro e w2 ⟨v2, rfl, ho2, hb2, hk2⟩; have hend := Lib.hid (And.intro ho2 (And.intro hb2 hk2)); clear ho2 hb2 hk2 hU)
    go_ret
    exact ⟨v2, rfl, hend.out.1, hend.out.2.1, hend.out.2.2⟩

set_option maxHeartbeats 2000000 in
theorem appI_any (B n : Nat) (i : Int) (h0 : -9223372036854775808 ≤ i) (h1 : i ≤ 9223372036854775807) (sv : Value) (xs : List Value) (w : World) (h : OwnX w B 5 sv n xs) (hB : B ≤ w.heap.size) (hlim : n + 21 ≤ 140737488355328) (htab : Lib.TabBelow Tryd.prog B w "internal/strconv.uint64pow10" .u64 Lib.pow10Tab) :
    Calls Tryd.prog 21 #[sv, .int .i64 i, .int .i64 10] w (XPost B n xs w (Lib.itoa i)) := by
  have hU := appI_in B n i h0 h1 sv xs w h hB hlim htab
  clear h htab
  go_enter Tryd.func21, Tryd.ntmps21
  go_wp2_with (go_at_call 30; refine hU.mono ?_; rintro e w2 ⟨v2, rfl, ho2, hb2, hk2⟩; have hend := Lib.hid (And.intro ho2 (And.intro hb2 hk2)); clear ho2 hb2 hk2 hU)
  go_ret
  exact ⟨v2, rfl, hend.out.1, hend.out.2.1, hend.out.2.2⟩
end Go.Proofs.YtglobeajmdieaaaDoor
