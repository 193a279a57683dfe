/-
  Programs as bytes: the reference's bytes of rows and functions.
-/
import Derived.Test.YthjlpbglnnebkaaCeA
import Derived.Lib.QuietBelow
import Derived.BigQuiet
namespace Go.Proofs.Ythjlpbglnnebkaa
open Go.RowKit Go.Sort
set_option linter.unusedVariables false
set_option linter.unusedSimpArgs false

theorem so_call {P : Program} {f : FuncId} {args : Array Value} {v : Value} (W : World) (h : ∀ A, Below W.heap.size W A → Calls P f args A fun e w' => e = .returned v ∧ Below A.heap.size A w') :
    ∀ p : Regrown, Calls P f args (grow (redrawn W p.d) p.os) fun e w' => e = .returned v ∧ ∃ q : Regrown, w' = grow (redrawn W q.d) q.os := fun p => Calls.regrown_of (h _ (below_regrown W p.d p.os))
theorem so_call2 {P : Program} {f : FuncId} {args : Array Value} {v : Value} (W : World) (h : ∀ A, Below W.heap.size W A → Calls P f args A fun e w' => e = .returned v ∧ Below A.heap.size A w') :
    ∀ d os, Calls P f args (grow (redrawn W d) os) fun e w' => e = .returned v ∧ ∃ q : Regrown, w' = grow (redrawn W q.d) q.os := fun d os => so_call W h ⟨d, os⟩
theorem baS (l : List UInt8) : (⟨l.toArray⟩ : ByteArray).size = l.length := by simp [ByteArray.size]
set_option maxRecDepth 100000 in
set_option maxHeartbeats 4000000 in
theorem rrow_w (n0 : Nat) (A : Option Addr) (n c : Nat) (l : List Int) (w : World) (h : GNs n0 w (.slice A n c) l) (hn0 : n0 ≤ w.heap.size) (hll : l.length ≤ 1048576) : Calls Try.prog 59 #[.slice A n c] w fun e w' => e = .returned (.string ⟨(cdRow l).toArray⟩) ∧ Below w.heap.size w w' := by
  have hnl := h.len
  have hN := rnum_c n (by omega)
  have H := Lib.hid h
  have Hnl := Lib.hid hnl
  have hnb : n ≤ 1048576 := by omega
  have hwn : IntKind.u64.wrap (n : Int) = (n : Int) := by rw [IntKind.wrap_u64]; omega
  have Hlen : Hid (∀ i, (cdN n ++ cdOnes (l.take i)).length ≤ 20000000) := Lib.hid (fun i => by
    have := cdN_len n
    have := cdOnes_take_len l i
    rw [List.length_append]
    omega)
  clear h hnl hll
  go_enter Try.func59, Try.ntmps59
  go_upto_region 2 with (go_at_call 13; refine (hN _).mono ?_; rintro e w1 ⟨rfl, h1⟩; have B1 := Lib.hid h1; clear h1 hN)
  go_wp2_with fail
  go_loopw [3, 4] (fun u3 u4 wr => ∃ i : Nat, i ≤ n ∧ u4 = .int .i64 (i : Int) ∧ u3 = .string ⟨(cdN n ++ cdOnes (l.take i)).toArray⟩ ∧ Hid (Below w.heap.size w wr)) (fun _ u4 _ => n - (intOf u4).toNat)
  case atStart => exact ⟨0, Nat.zero_le _, rfl, by simp [cdOnes], B1⟩
  case round =>
    clear B1
    obtain ⟨i, hi, rfl, rfl, HB⟩ := hrel
    by_cases hlt : i < n
    · have hil : i < l.length := by rw [← Hnl.out]; exact hlt
      obtain ⟨gb, go, rfl, -, kx⟩ := (H.out.keep (HB.out.mono hn0)).at hil
      have hS := cdOnes_more l i hil
      obtain ⟨x, hx⟩ : ∃ x, x = l[i] := ⟨_, rfl⟩
      rw [← hx] at kx hS
      have hM := rnum_c (u64Q (x + 1)) (u64Q_lt _)
      have hu : IntKind.u64.wrap (wrap64 (x + 1)) = (u64Q (x + 1) : Int) := by
        rw [u64Q_wrap]
        have : u64Q (wrap64 (x + 1)) = u64Q (x + 1) := by unfold u64Q wrap64; omega
        rw [this]
      have hml := cdN_len (u64Q (x + 1))
      obtain ⟨m, hm⟩ : ∃ m, m = cdN (u64Q (x + 1)) := ⟨_, rfl⟩
      obtain ⟨k, hk⟩ : ∃ k, k = u64Q (x + 1) := ⟨_, rfl⟩
      obtain ⟨p, hp⟩ : ∃ p, p = cdN n ++ cdOnes (l.take i) := ⟨_, rfl⟩
      have hpl := Hlen.out i
      rw [← hm] at hM hml hS
      rw [← hk] at hM hu
      rw [← hp] at hpl ⊢
      have HS : Hid (p ++ m = cdN n ++ cdOnes (l.take (i + 1))) := Lib.hid (by rw [hS, hp, List.append_assoc])
      clear hx hm hk hp hS hil
      go_wp2_with (go_at_call 13; refine (hM _).mono ?_; rintro e w2 ⟨rfl, h2⟩; have B2 := Lib.hid (HB.out.trans (h2.mono HB.out.size)); clear h2 hM)
      go_roundw
      case rel => exact ⟨i + 1, by omega, by go_num, by rw [ba_two, HS.out], B2⟩
      case measure => simp [intOf]; omega
    · have hie : i = l.length := by rw [← Hnl.out]; omega
      have HR : Hid (cdN n ++ cdOnes (l.take i) = cdRow l) := Lib.hid (by rw [hie, List.take_length, Hnl.out]; rfl)
      rw [HR.out]
      clear hie
      go_wp2_with fail
      go_ret
      exact ⟨rfl, HB.out⟩
end Go.Proofs.Ythjlpbglnnebkaa
