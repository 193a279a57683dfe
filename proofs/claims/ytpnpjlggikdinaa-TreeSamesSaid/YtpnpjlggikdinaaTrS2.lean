/-
  Package tree's sameList at expressions: two rows that read as one list are the same; so SameExpr at expressions that read alike.
-/
import Derived.Test.YtpnpjlggikdinaaTrS1
namespace Go.Proofs.Ytpnpjlggikdinaa
open Go.RowKit

/-- Two expressions that read alike are the same, wherever they lie below N. -/
def EqE (e : Ex) : Prop := ∀ (N : Nat) (c c' : Nat → Option Value) (w : World), N ≤ w.heap.size → RdE w (fun b => b < N) c e → RdE w (fun b => b < N) c' e →
  ∃ (k a t o n : Int) (s : ByteArray) (A : Option Addr) (m cc : Nat) (k' a' t' o' n' : Int) (s' : ByteArray) (A' : Option Addr) (m' cc' : Nat),
    (c 0 = some (.int .i64 k) ∧ c 1 = some (.int .i64 a) ∧ c 2 = some (.int .i64 t) ∧ c 3 = some (.int .i64 o) ∧ c 4 = some (.int .i64 n) ∧ c 5 = some (.string s) ∧ c 6 = some (.slice A m cc)) ∧
    (c' 0 = some (.int .i64 k') ∧ c' 1 = some (.int .i64 a') ∧ c' 2 = some (.int .i64 t') ∧ c' 3 = some (.int .i64 o') ∧ c' 4 = some (.int .i64 n') ∧ c' 5 = some (.string s') ∧ c' 6 = some (.slice A' m' cc')) ∧
    ∀ w2, Below N w w2 → N ≤ w2.heap.size → Calls Try.prog 27 #[exAgg k a t o n s A m cc, exAgg k' a' t' o' n' s' A' m' cc'] w2 fun e w' => e = .returned (.bool true) ∧ Below w2.heap.size w2 w'
def EqEs (l : List Ex) : Prop := ∀ (N : Nat) (A A' : Option Addr) (c c' : Nat) (w : World), N ≤ w.heap.size → l.length ≤ 9223372036854775807 → RdEs w (fun b => b < N) A 0 l → RdEs w (fun b => b < N) A' 0 l →
  Calls Try.prog 26 #[.slice A l.length c, .slice A' l.length c', .func (.func 27) #[] #[]] w fun e w' => e = .returned (.bool true) ∧ Below w.heap.size w w'
set_option maxHeartbeats 8000000 in
theorem eqEs_of (l : List Ex) (ih : ∀ e ∈ l, EqE e) : EqEs l := by
  intro N A A' c c' w hN hmax hR hR'
  obtain ⟨n, hn⟩ : ∃ n, n = l.length := ⟨_, rfl⟩
  have HR := Lib.hid hR
  have HR' := Lib.hid hR'
  have HI := Lib.hid ih
  have HN := Lib.hid hN
  rw [← hn] at hmax ⊢
  have Hn := Lib.hid hn
  clear hR hR' ih hN hn
  go_enter Try.func26, Try.ntmps26
  go_wp2
  go_loopw [15] (fun v wr => ∃ i : Nat, i ≤ n ∧ v = .int .i64 i ∧ Hid (Below w.heap.size w wr)) (fun v _ => n - (intOf v).toNat)
  case atStart => exact ⟨0, Nat.zero_le _, rfl, Below.refl _ _⟩
  case round =>
    obtain ⟨i, hi, rfl, hb⟩ := hrel
    by_cases hlt : i < n
    · have hil : i < l.length := by have := Hn.out; omega
      obtain ⟨g, p, hA, hS, hE⟩ := RdEs.at_ HR.out (List.getElem?_eq_getElem hil)
      obtain ⟨g', p', hA', hS', hE'⟩ := RdEs.at_ HR'.out (List.getElem?_eq_getElem hil)
      obtain ⟨k, a, t, o, q, s, B, m, cc, k', a', t', o', q', s', B', m', cc', ⟨x0, x1, x2, x3, x4, x5, x6⟩, ⟨y0, y1, y2, y3, y4, y5, y6⟩, HC⟩ := HI.out _ (List.getElem_mem hil) N _ _ w HN.out hE hE'
      subst hA
      subst hA'
      simp only [Nat.zero_add, Nat.add_zero] at x0 x1 x2 x3 x4 x5 x6 y0 y1 y2 y3 y4 y5 y6
      have cc1 : ∀ j v, w.cell? ⟨g, j, none⟩ = some v → wr.cell? ⟨g, j, none⟩ = some v := fun j v e => (hb.out.cell (p := ⟨g, j, none⟩) (Nat.lt_of_lt_of_le hS HN.out)).trans e
      have cc2 : ∀ j v, w.cell? ⟨g', j, none⟩ = some v → wr.cell? ⟨g', j, none⟩ = some v := fun j v e => (hb.out.cell (p := ⟨g', j, none⟩) (Nat.lt_of_lt_of_le hS' HN.out)).trans e
      replace x0 := cc1 _ _ x0
      replace x1 := cc1 _ _ x1
      replace x2 := cc1 _ _ x2
      replace x3 := cc1 _ _ x3
      replace x4 := cc1 _ _ x4
      replace x5 := cc1 _ _ x5
      replace x6 := cc1 _ _ x6
      replace y0 := cc2 _ _ y0
      replace y1 := cc2 _ _ y1
      replace y2 := cc2 _ _ y2
      replace y3 := cc2 _ _ y3
      replace y4 := cc2 _ _ y4
      replace y5 := cc2 _ _ y5
      replace y6 := cc2 _ _ y6
      have HCw : ∀ w2, Below w.heap.size w w2 → Calls Try.prog 27 #[exAgg k a t o q s B m cc, exAgg k' a' t' o' q' s' B' m' cc'] w2 fun e w' => e = .returned (.bool true) ∧ Below w2.heap.size w2 w' := fun w2 h2 => HC w2 (h2.mono HN.out) (Nat.le_trans HN.out h2.size)
      unfold exAgg at HCw
      have HCh := Lib.hid HCw
      clear cc1 cc2 hE hE' HC HCw
      go_wp2
      go_still_tail 9, (by kernel_rfl)
      change wpList _ _ _ _ _ wr.drew
      go_wp2_with (go_at_call 27; refine (HCh.out _ hb.out.drew).mono ?_; rintro e w2 ⟨rfl, hb2⟩; have hbB := Lib.hid (hb.out.drew.trans (hb2.mono hb.out.size)); clear hb2)
      go_roundw
      case rel => exact ⟨i + 1, by omega, by go_num, hbB⟩
      case measure => simp [intOf]; omega
    · obtain rfl : i = n := by omega
      clear hlt
      go_wp2
      go_ret
      exact ⟨rfl, hb.out⟩

theorem eqE_of (k a t o n : Int) (s : ByteArray) (kids : List Ex) (hk : kids.length ≤ 9223372036854775807) (ih : EqEs kids) : EqE (.mk k a t o n s kids) := by
  intro N c c' w hN h h'
  unfold RdE at h h'
  obtain ⟨h0, h1, h2, h3, h4, h5, A, cap, h6, hr⟩ := h
  obtain ⟨g0, g1, g2, g3, g4, g5, A', cap', g6, hr'⟩ := h'
  refine ⟨k, a, t, o, n, s, A, kids.length, cap, k, a, t, o, n, s, A', kids.length, cap', ⟨h0, h1, h2, h3, h4, h5, h6⟩, ⟨g0, g1, g2, g3, g4, g5, g6⟩, fun w2 hb hN2 => ?_⟩
  refine sameExpr_eq k a t o n s A kids.length cap a t n A' kids.length cap' rfl w2 (fun w3 hb3 => ?_)
  have hb4 := hb.trans (hb3.mono hN2)
  exact ih N A A' cap cap' w3 (Nat.le_trans hN2 hb3.size) hk (RdEs.keep (fun p hp => hb4.cell hp) _ _ _ hr) (RdEs.keep (fun p hp => hb4.cell hp) _ _ _ hr')
/-- No list of kids is longer than there may be. -/
inductive Fine : Ex → Prop
  | mk (k a t o n : Int) (s : ByteArray) (kids : List Ex) (hk : kids.length ≤ 9223372036854775807) (h : ∀ e ∈ kids, Fine e) : Fine (.mk k a t o n s kids)
theorem Fine.eqE {e : Ex} (h : Fine e) : EqE e := by
  induction h with
  | mk k a t o n s kids hk h ih => exact eqE_of k a t o n s kids hk (eqEs_of kids ih)
end Go.Proofs.Ytpnpjlggikdinaa
