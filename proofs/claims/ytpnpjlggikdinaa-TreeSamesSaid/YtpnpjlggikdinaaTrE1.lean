/-
  The law's expr: an expression of a list.
-/
import Derived.Test.YtpnpjlggikdinaaTrL1
import Derived.Test.YtpnpjlggikdinaaTrK1
import Derived.WalkSpells
import Derived.WalkLawsBesides
import Derived.BigRegion
import Derived.Deep.CutRange
import Derived.Lib.Hide
import Derived.Lib.Builder
import Derived.Lib.MinMax
import Derived.Outline
namespace Go.Proofs.Ytpnpjlggikdinaa
open Go.RowKit

/-- No string is longer than there may be. -/
def SmallL (l : List EE) : Prop := ∀ y ∈ l, y.s.size ≤ maxLen
theorem SmallL.tail {x : EE} {l : List EE} (h : SmallL (x :: l)) : SmallL l := fun y hy => h y (List.mem_cons_of_mem _ hy)
theorem SmallL.drop {l : List EE} (h : SmallL l) (k : Nat) : SmallL (l.drop k) := fun y hy => h y (List.mem_of_mem_drop hy)

/-- What a call that makes memory hands back: an expression, and the rest of the list. -/
def ExprPost (w : World) (N : Nat) (o : Ex × List EE) (e : Ending) (w' : World) : Prop :=
  ∃ (k a t p n : Int) (s : ByteArray) (A : Option Addr) (c1 : Nat) (m : Nat) (A2 : Option Addr) (c2 : Nat), e = .returned (.tuple #[.agg #[.int .i64 k, .int .i64 a, .int .i64 t, .int .i64 p, .int .i64 n, .string s, .slice A m c1], .slice A2 o.2.length c2]) ∧
    RdE w' (fun b => w.heap.size ≤ b ∧ b < w'.heap.size) (fun j => [Value.int .i64 k, .int .i64 a, .int .i64 t, .int .i64 p, .int .i64 n, .string s, .slice A m c1][j]?) o.1 ∧
    RdL w' N A2 o.2 ∧ o.2.length ≤ c2 ∧ c2 ≤ maxLen ∧ Below w.heap.size w w'

set_option maxHeartbeats 1000000 in
theorem expr_nil (d : Int) (A : Option Addr) (cap : Nat) (hc : cap ≤ maxLen) (w : World) (N : Nat) : Calls Try.prog 11 #[.slice A 0 cap, .int .i64 d] w (ExprPost w N (inputE, [])) := by
  go_enter Try.func11, Try.ntmps11
  go_wp2
  refine bodyPost_ret (v := .tuple #[.agg #[.int .i64 14, .int .i64 0, .int .i64 0, .int .i64 0, .int .i64 0, .string ⟨#[]⟩, .slice none 0 0], .slice A 0 cap]) (by simp [results, Try.results11, go_sem]) rfl ?_
  refine ⟨14, 0, 0, 0, 0, ⟨#[]⟩, none, 0, 0, A, cap, rfl, ?_, fun h => absurd h (by simp), Nat.zero_le _, hc, (Below.refl _ _).alloc (Nat.le_refl _) _⟩
  unfold inputE RdE
  exact ⟨rfl, rfl, rfl, rfl, rfl, rfl, none, 0, rfl, by unfold RdEs; trivial⟩

theorem and3 (n : Int) : bits .and .i64 n 3 = n % 4 := by
  have e : (BitVec.ofInt 64 n &&& BitVec.ofInt 64 3).toNat = (n % 4).toNat := by
    have h3 : (BitVec.ofInt 64 3).toNat = 2 ^ 2 - 1 := by decide
    rw [BitVec.toNat_and, h3, Nat.and_two_pow_sub_one_eq_mod, BitVec.toNat_ofInt]
    omega
  show IntKind.i64.wrap ((BitVec.ofInt 64 n &&& BitVec.ofInt 64 3).toNat : Int) = _
  rw [e, IntWalk.i64_in _ (by omega)]
  omega
theorem and1 (n : Int) : bits .and .i64 n 1 = n % 2 := by
  have e : (BitVec.ofInt 64 n &&& BitVec.ofInt 64 1).toNat = (n % 2).toNat := by
    have h3 : (BitVec.ofInt 64 1).toNat = 2 ^ 1 - 1 := by decide
    rw [BitVec.toNat_and, h3, Nat.and_two_pow_sub_one_eq_mod, BitVec.toNat_ofInt]
    omega
  show IntKind.i64.wrap ((BitVec.ofInt 64 n &&& BitVec.ofInt 64 1).toNat : Int) = _
  rw [e, IntWalk.i64_in _ (by omega)]
  omega
theorem nat_and2 (a : Nat) : a &&& 2 = a / 2 % 2 * 2 := by
  have h1 : (a &&& 2) / 2 ^ 1 = a / 2 % 2 := by rw [Nat.and_div_two_pow]; simp [Nat.and_one_is_mod]
  have h2 : (a &&& 2) % 2 ^ 1 = 0 := by rw [Nat.and_mod_two_pow]; simp
  omega
theorem nat_and4 (a : Nat) : a &&& 4 = a / 4 % 2 * 4 := by
  have h1 : (a &&& 4) / 2 ^ 2 = a / 4 % 2 := by rw [Nat.and_div_two_pow]; simp [Nat.and_one_is_mod]
  have h2 : (a &&& 4) % 2 ^ 2 = 0 := by rw [Nat.and_mod_two_pow]; simp
  omega
theorem and2 (n : Int) : bits .and .i64 n 2 = n / 2 % 2 * 2 := by
  have e : (BitVec.ofInt 64 n &&& BitVec.ofInt 64 2).toNat = (n / 2 % 2 * 2).toNat := by
    have h3 : (BitVec.ofInt 64 2).toNat = 2 := by decide
    rw [BitVec.toNat_and, h3, nat_and2, BitVec.toNat_ofInt]
    omega
  show IntKind.i64.wrap ((BitVec.ofInt 64 n &&& BitVec.ofInt 64 2).toNat : Int) = _
  rw [e, IntWalk.i64_in _ (by omega)]
  omega
theorem and4 (n : Int) : bits .and .i64 n 4 = n / 4 % 2 * 4 := by
  have e : (BitVec.ofInt 64 n &&& BitVec.ofInt 64 4).toNat = (n / 4 % 2 * 4).toNat := by
    have h3 : (BitVec.ofInt 64 4).toNat = 4 := by decide
    rw [BitVec.toNat_and, h3, nat_and4, BitVec.toNat_ofInt]
    omega
  show IntKind.i64.wrap ((BitVec.ofInt 64 n &&& BitVec.ofInt 64 4).toNat : Int) = _
  rw [e, IntWalk.i64_in _ (by omega)]
  omega
theorem infoEx : (Try.prog.info? 40).map (fun i => (i.zero, i.size, i.bytes)) = some (some (.agg #[.int .i64 0, .int .i64 0, .int .i64 0, .int .i64 0, .int .i64 0, .string ⟨#[]⟩, .slice none 0 0]), 7, 80) := by kernel_rfl

theorem kidsT_len2 (d k : Nat) (l : List EE) : (kidsT (exprT d) k l).2.length ≤ l.length := kidsT_len _ (exprT_len d) k l
def kidsM (d M : Nat) : Nat := if d = 0 then 0 else M
theorem exprT_eq (d : Nat) (x : EE) (r : List EE) (M : Nat) (hM : M = (x.many % 4).toNat) : exprT d (x :: r) = (.mk x.kind 0 0 x.op x.n (cut20 x.s) (kidsT (exprT (d - 1)) (kidsM d M) r).1, (kidsT (exprT (d - 1)) (kidsM d M) r).2) := by
  subst hM
  cases d with
  | zero => rfl
  | succ d => rfl
theorem kidsT_snoc (f : List EE → Ex × List EE) (k : Nat) (l : List EE) (K : List Ex × List EE) (ks : List Ex) (h : (ks ++ (kidsT f (k + 1) l).1, (kidsT f (k + 1) l).2) = K) : ((ks ++ [(f l).1]) ++ (kidsT f k (f l).2).1, (kidsT f k (f l).2).2) = K := by
  rw [← h]
  simp [kidsT]
theorem exprT_sub (d : Nat) (l : List EE) : ∀ y ∈ (exprT d l).2, y ∈ l := by
  induction d generalizing l with
  | zero => cases l <;> simp [exprT]; intro y hy; exact Or.inr hy
  | succ d ih =>
    cases l with
    | nil => simp [exprT]
    | cons x r =>
      have hk : ∀ (k : Nat) (l : List EE), ∀ y ∈ (kidsT (exprT d) k l).2, y ∈ l := by
        intro k
        induction k with
        | zero => intro l y hy; exact hy
        | succ k ihk => intro l y hy; exact ih l y (ihk _ y hy)
      intro y hy
      exact List.mem_cons_of_mem _ (hk _ r y hy)
theorem cut20_min (s : ByteArray) (p : Nat) (hp : min (s.size : Int) 20 = (p : Int)) : s.extract 0 p = cut20 s := by
  unfold cut20
  rw [show p = min s.size 20 by omega]
/-- The contract, at one depth. -/
def ExprAt (N d : Nat) : Prop := ∀ (l : List EE) (A : Option Addr) (cap : Nat) (w : World), RdL w N A l → l.length ≤ cap → cap ≤ maxLen → N ≤ w.heap.size → SmallL l → Calls Try.prog 11 #[.slice A l.length cap, .int .i64 d] w (ExprPost w N (exprT d l))

/-- The end of expr: what it hands back lies as the post says. -/
theorem expr_end {w wr : World} {N d : Nat} {x : EE} {r : List EE} {M : Nat} {ct : ByteArray} {T : Ex × List EE} {ks : List Ex} {xs : List Value} {rl : List EE} {A Av : Option Addr} {c2 cv i : Nat} {Tx : TypeId}
    (hct : ct = cut20 x.s) (hT : T = (.mk x.kind 0 0 x.op x.n (cut20 x.s) (kidsT (exprT (d - 1)) (kidsM d M) r).1, (kidsT (exprT (d - 1)) (kidsM d M) r).2))
    (hlc : rl.length ≤ c2) (hc2 : c2 ≤ 9223372036854775807) (hR : RdL wr N A rl) (hi : i = kidsM d M)
    (hK : (ks ++ (kidsT (exprT (d - 1)) (kidsM d M - i) rl).1, (kidsT (exprT (d - 1)) (kidsM d M - i) rl).2) = kidsT (exprT (d - 1)) (kidsM d M) r) (hKids : Kids Tx wr (w.heap.size + 3) (.slice Av ks.length cv) xs ks)
    (hb : Below w.heap.size w wr) (hz : w.heap.size + 1 + 1 < wr.heap.size) (hN : N ≤ w.heap.size) :
    ExprPost w N T (.returned (.tuple #[.agg #[.int .i64 x.kind, .int .i64 0, .int .i64 0, .int .i64 x.op, .int .i64 x.n, .string ct, .slice Av ks.length cv], .slice A rl.length c2]))
      (put7 wr w.heap.size (.int .i64 x.kind) (.int .i64 0) (.int .i64 0) (.int .i64 x.op) (.int .i64 x.n) (.string ct) (.slice Av ks.length cv)) := by
  subst hi
  rw [Nat.sub_self] at hK
  simp only [kidsT, List.append_nil] at hK
  rw [← hK] at hT
  subst hT
  have hpb := put7_below (w := wr) (Nat.le_refl w.heap.size) (.int .i64 x.kind) (.int .i64 0) (.int .i64 0) (.int .i64 x.op) (.int .i64 x.n) (.string ct) (.slice Av ks.length cv)
  have hbb := hb.trans hpb
  refine ⟨x.kind, 0, 0, x.op, x.n, ct, Av, cv, ks.length, A, c2, rfl, ?_, hR.keep (hpb.mono hN), hlc, by unfold maxLen; omega, hbb⟩
  unfold RdE
  refine ⟨rfl, rfl, rfl, rfl, rfl, by rw [hct]; rfl, Av, cv, rfl, ?_⟩
  refine RdEs.more (S := fun b => w.heap.size + 3 ≤ b ∧ b < wr.heap.size) (fun b hS => ⟨by omega, Nat.lt_of_lt_of_le hS.2 hpb.size⟩) _ _ _ ?_
  exact RdEs.keep (fun p hp => World.cell?_of_block (put7_other (by omega) _ _ _ _ _ _ _)) _ _ _ hKids.reads'.2
end Go.Proofs.Ytpnpjlggikdinaa
