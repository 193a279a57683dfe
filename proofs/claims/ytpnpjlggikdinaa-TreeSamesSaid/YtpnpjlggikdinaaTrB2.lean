/-
  Package tree's printer, as far as the laws' awake needs it: 'say' of one text, 'list' of one kid, a name, a number, a sum of two.
-/
import Derived.Test.YtpnpjlggikdinaaTrB1
import Derived.Test.YtpnpjlggikdinaaTrF2
import Derived.Test.YtpnpjlggikdinaaTrF3
namespace Go.Proofs.Ytpnpjlggikdinaa
open Go.RowKit

theorem byteCells_snoc (l : List UInt8) (s : ByteArray) : Lib.byteCells l ++ Lib.strCells s = Lib.byteCells (l ++ s.data.toList) := by
  unfold Lib.byteCells Lib.strCells
  rw [List.map_append]
/-- What saying s leaves: the printer's text and s; all below B as it was. -/
def Said (B b : Nat) (l : List UInt8) (w : World) (e : Ending) (w' : World) : Prop := e = .returned (.tuple #[]) ∧ PrAt B b (.pointer (some ⟨b, 0, none⟩)) (Lib.byteCells l) w' ∧ Below B w w'
theorem PrAt.is {B b : Nat} {bs : List Value} {w : World} (h : PrAt B b (.pointer (some ⟨b, 0, none⟩)) bs w) : IsPr B b bs w := Or.inr h
theorem IsPr.alloc {B b : Nat} {bs : List Value} {w : World} (h : IsPr B b bs w) (o : Obj) : IsPr B b bs (w.alloc o) := by
  rcases h with ⟨hB, v, hb, hown, hne⟩ | ⟨hB, v, hb, hown, hne⟩
  · exact Or.inl ⟨hB, v, by rw [Below.heap_alloc _ _ _ (Lib.BuilderAt.lt ⟨hB, v, hb, hown, hne⟩)]; exact hb, hown.alloc _, hne⟩
  · exact Or.inr ⟨hB, v, by rw [Below.heap_alloc _ _ _ (Lib.BuilderAt.lt ⟨hB, v, hb, hown, hne⟩)]; exact hb, hown.alloc _, hne⟩
theorem IsPr.below {B b : Nat} {bs : List Value} {w w' : World} (h : IsPr B b bs w) (hb' : Below w.heap.size w w') : IsPr B b bs w' := by
  have key : ∀ p, PrAt B b p bs w → PrAt B b p bs w' := fun p ⟨hB, v, hb, hown, hne⟩ => by
    have hlt : b < w.heap.size := Lib.BuilderAt.lt ⟨hB, v, hb, hown, hne⟩
    refine ⟨hB, v, (hb'.block b hlt).trans hb, ?_, hne⟩
    exact hown.kept (row := none) ⟨hb'.os, hb'.tape, hb'.output, hb'.size, fun k hk _ => hb'.block k hk⟩ (by cases v.ownBlock <;> simp)
  rcases h with h | h
  · exact Or.inl (key _ h)
  · exact Or.inr (key _ h)
theorem IsPr.lt {B b : Nat} {bs : List Value} {w : World} (h : IsPr B b bs w) : b < w.heap.size := by
  rcases h with h | h <;> exact Lib.BuilderAt.lt h

set_option maxHeartbeats 2000000 in
theorem say_one (B b : Nat) (l : List UInt8) (s : ByteArray) (g cap : Nat) (w : World) (h : IsPr B b (Lib.byteCells l) w) (hc : w.cell? ⟨g, 0, none⟩ = some (.string s)) (hlen : l.length + s.size ≤ 100000) (hBw : B ≤ w.heap.size) :
    Calls Try.prog 18 #[.pointer (some ⟨b, 0, none⟩), .slice (some ⟨g, 0, none⟩) 1 cap] w (Said B b (l ++ s.data.toList) w) := by
  have HW := fun w1 (h1 : IsPr B b (Lib.byteCells l) w1) h2 => write_any B b (Lib.byteCells l) s w1 h1 (by rw [Lib.byteCells_length]; omega) h2
  rw [byteCells_snoc] at HW
  have H := Lib.hid h
  clear h
  go_enter Try.func18, Try.ntmps18
  go_wp2
  go_loopw [8] (fun i wr => ∃ k : Nat, k ≤ 1 ∧ i = .int .i64 k ∧ (k = 0 → wr = w) ∧ (k = 1 → PrAt B b (.pointer (some ⟨b, 0, none⟩)) (Lib.byteCells (l ++ s.data.toList)) wr ∧ Below B w wr)) (fun i _ => 1 - (intOf i).toNat)
  case atStart => exact ⟨0, by omega, rfl, fun _ => rfl, fun h => absurd h (by decide)⟩
  case round =>
    obtain ⟨k, hk, rfl, h0, h1⟩ := hrel
    by_cases hk0 : k = 0
    · subst hk0
      obtain rfl := h0 rfl
      clear h0 h1
      go_wp2_with (go_at_call 28; refine (HW _ H.out hBw).mono ?_; rintro e w1 ⟨rfl, hp, hb⟩; have HP := Lib.hid hp; clear hp)
      go_roundw
      case rel => exact ⟨1, by omega, by go_num, fun h => absurd h (by decide), fun _ => ⟨HP.out, hb⟩⟩
      case measure => simp [intOf]
    · obtain rfl : k = 1 := by omega
      obtain ⟨hp, hb⟩ := h1 rfl
      have HP := Lib.hid hp
      clear h0 h1 hp
      go_wp2
      go_end0
      exact ⟨rfl, HP.out, hb⟩

def exV (k a t o n : Int) (s : ByteArray) (A : Option Addr) (m c : Nat) : Value := .agg #[.int .i64 k, .int .i64 a, .int .i64 t, .int .i64 o, .int .i64 n, .string s, .slice A m c]

set_option maxHeartbeats 4000000 in
theorem list_one (B b : Nat) (l r : List UInt8) (o c : ByteArray) (g q cap : Nat) (k a t op n : Int) (s : ByteArray) (A : Option Addr) (m c1 : Nat) (w : World) (h : IsPr B b (Lib.byteCells l) w)
    (x0 : w.cell? ⟨g, q, none⟩ = some (.int .i64 k)) (x1 : w.cell? ⟨g, q + 1, none⟩ = some (.int .i64 a)) (x2 : w.cell? ⟨g, q + 2, none⟩ = some (.int .i64 t)) (x3 : w.cell? ⟨g, q + 3, none⟩ = some (.int .i64 op))
    (x4 : w.cell? ⟨g, q + 4, none⟩ = some (.int .i64 n)) (x5 : w.cell? ⟨g, q + 5, none⟩ = some (.string s)) (x6 : w.cell? ⟨g, q + 6, none⟩ = some (.slice A m c1)) (hg : g < B)
    (hlen : l.length + o.size + r.length + c.size ≤ 100000) (hBw : B ≤ w.heap.size)
    (hE : ∀ w2, Below B w w2 → IsPr B b (Lib.byteCells (l ++ o.data.toList)) w2 → B ≤ w2.heap.size → Calls Try.prog 12 #[.pointer (some ⟨b, 0, none⟩), exV k a t op n s A m c1] w2 (Said B b (l ++ o.data.toList ++ r) w2)) :
    Calls Try.prog 21 #[.pointer (some ⟨b, 0, none⟩), .string o, .slice (some ⟨g, q, none⟩) 1 cap, .string c] w (Said B b (l ++ o.data.toList ++ r ++ c.data.toList) w) := by
  have HS := fun w1 l1 s1 g1 cap1 (h1 : IsPr B b (Lib.byteCells l1) w1) h2 h3 h4 => say_one B b l1 s1 g1 cap1 w1 h1 h2 h3 h4
  have H := Lib.hid h
  clear h
  have H1 : ∀ w1 : World, w1 = w.alloc (.cells #[.string o] 9) → Calls Try.prog 18 #[.pointer (some ⟨b, 0, none⟩), .slice (some ⟨w.heap.size, 0, none⟩) 1 1] w1 (Said B b (l ++ o.data.toList) w1) := fun w1 e => by
    subst e
    exact say_one B b l o _ _ _ (H.out.alloc _) (by rw [World.cell?_alloc_new]; rfl) (by omega) (by simp; omega)
  go_enter Try.func21, Try.ntmps21
  go_wp2_with (go_at_call 18; refine (H1 _ rfl).mono ?_; rintro e w1 ⟨rfl, hp, hb⟩; have HP := Lib.hid hp; clear hp)
  have hbw : Below B w w1 := ((Below.refl _ _).alloc hBw _).trans hb
  have cc : ∀ j v, w.cell? ⟨g, j, none⟩ = some v → w1.cell? ⟨g, j, none⟩ = some v := fun j v e => (hbw.cell (p := ⟨g, j, none⟩) hg).trans e
  replace x0 := cc _ _ x0
  replace x1 := cc _ _ x1
  replace x2 := cc _ _ x2
  replace x3 := cc _ _ x3
  replace x4 := cc _ _ x4
  replace x5 := cc _ _ x5
  replace x6 := cc _ _ x6
  have hz1 : B ≤ w1.heap.size := Nat.le_trans hBw hbw.size
  have H2 : ∀ (ob : Obj) (w2 : World), w2 = w1.alloc ob → Calls Try.prog 12 #[.pointer (some ⟨b, 0, none⟩), exV k a t op n s A m c1] w2 (Said B b (l ++ o.data.toList ++ r) w2) := fun ob w2 e => by
    subst e
    exact hE _ (hbw.alloc hz1 _) ((HP.out.is).alloc _) (by simp; omega)
  clear cc H1 hb
  go_loopw [16] (fun i wr => ∃ k : Nat, k ≤ 1 ∧ i = .int .i64 k ∧ (k = 0 → wr = w1) ∧ (k = 1 → PrAt B b (.pointer (some ⟨b, 0, none⟩)) (Lib.byteCells (l ++ o.data.toList ++ r)) wr ∧ Below B w wr)) (fun i _ => 1 - (intOf i).toNat)
  case atStart => exact ⟨0, by omega, rfl, fun _ => rfl, fun h => absurd h (by decide)⟩
  case round =>
    obtain ⟨k, hk, rfl, h0, h1⟩ := hrel
    by_cases hk0 : k = 0
    · subst hk0
      obtain rfl := h0 rfl
      clear h0 h1
      have Hbw := Lib.hid hbw
      clear hbw
      go_wp2_with (go_at_call 12; refine (H2 _ _ rfl).mono ?_; rintro e w3 ⟨rfl, hp, hb⟩; have HP3 := Lib.hid hp; clear hp)
      go_roundw
      case rel => exact ⟨1, by omega, by go_num, fun h => absurd h (by decide), fun _ => ⟨HP3.out, (Hbw.out.alloc hz1 _).trans hb⟩⟩
      case measure => simp [intOf]
    · obtain rfl : k = 1 := by omega
      obtain ⟨hp, hb⟩ := h1 rfl
      have HP4 := Lib.hid hp
      clear h0 h1 hp H2 hbw
      have H3 : ∀ w2 : World, w2 = wr.alloc (.cells #[.string c] 9) → Calls Try.prog 18 #[.pointer (some ⟨b, 0, none⟩), .slice (some ⟨wr.heap.size, 0, none⟩) 1 1] w2 (Said B b (l ++ o.data.toList ++ r ++ c.data.toList) w2) := fun w2 e => by
        subst e
        refine say_one B b _ c _ _ _ (HP4.out.is.alloc _) (by rw [World.cell?_alloc_new]; rfl) ?_ (by have := hb.size; simp; omega)
        have : o.data.toList.length = o.size := by simp
        simp only [List.length_append]
        omega
      have hzr : B ≤ wr.heap.size := Nat.le_trans hBw hb.size
      go_wp2_with (go_at_call 18; refine (H3 _ rfl).mono ?_; rintro e w5 ⟨rfl, hp, hb5⟩; have HP5 := Lib.hid hp; clear hp)
      go_end0
      exact ⟨rfl, HP5.out, (hb.alloc hzr _).trans hb5⟩
end Go.Proofs.Ytpnpjlggikdinaa
