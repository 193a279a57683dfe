/-
  The laws' awake: the text of 'a + 1' is '(a + 1)': it answers true, and nothing that was there has changed.
-/
import Derived.Test.YtpnpjlggikdinaaTrB2
import Derived.Outline
import Derived.Deep.RegionWith
namespace Go.Proofs.Ytpnpjlggikdinaa
open Go.RowKit

set_option maxHeartbeats 4000000 in
set_option maxRecDepth 100000 in
theorem expr_name (B b : Nat) (l : List UInt8) (a t op n : Int) (s : ByteArray) (A : Option Addr) (m c1 : Nat) (w : World) (h : IsPr B b (Lib.byteCells l) w) (hlen : l.length + s.size ≤ 100000) (hBw : B ≤ w.heap.size) :
    Calls Try.prog 12 #[.pointer (some ⟨b, 0, none⟩), exV 3 a t op n s A m c1] w (Said B b (l ++ s.data.toList) w) := by
  have H := Lib.hid h
  clear h
  have H1 : ∀ (ob : Obj) (w1 : World), w1 = (w.alloc ob).alloc (.cells #[.string s] 9) → Calls Try.prog 18 #[.pointer (some ⟨b, 0, none⟩), .slice (some ⟨w.heap.size + 1, 0, none⟩) 1 1] w1 (Said B b (l ++ s.data.toList) w1) := fun ob w1 e => by
    subst e
    refine say_one B b l s _ _ _ ((H.out.alloc _).alloc _) ?_ hlen (by simp; omega)
    have e := World.cell?_alloc_new (w.alloc ob) #[.string s] 9 0
    rw [show (w.alloc ob).heap.size = w.heap.size + 1 by simp] at e
    exact e
  unfold exV
  go_enter Try.func12, Try.ntmps12
  go_wp2_with (go_at_call 18; refine (H1 _ _ rfl).mono ?_; rintro e w1 ⟨rfl, hp, hb⟩; have HP := Lib.hid hp; clear hp)
  go_end0
  exact ⟨rfl, HP.out, (((Below.refl _ _).alloc hBw _).alloc (by simp; omega) _).trans hb⟩

set_option maxHeartbeats 4000000 in
set_option maxRecDepth 100000 in
theorem expr_one (B b : Nat) (l : List UInt8) (w : World) (h : IsPr B b (Lib.byteCells l) w) (hlen : l.length ≤ 1000) (hBw : B ≤ w.heap.size) :
    Calls Try.prog 12 #[.pointer (some ⟨b, 0, none⟩), exV 1 0 0 0 1 ⟨#[]⟩ none 0 0] w (Said B b (l ++ [49]) w) := by
  have H := Lib.hid h
  clear h
  have HD := fun w1 => digits_any 1 1 (by decide) (by decide) w1
  have e1 : Lib.decDigits 1 = [49] := by rw [Lib.decDigits, dif_pos (by decide)]; rfl
  rw [e1] at HD
  have H1 : ∀ (ob : Obj) (w1 w2 : World), Below (w.alloc ob).heap.size (w.alloc ob) w1 → w2 = w1.alloc (.cells #[.string ⟨[49].toArray⟩] 9) → Calls Try.prog 18 #[.pointer (some ⟨b, 0, none⟩), .slice (some ⟨w1.heap.size, 0, none⟩) 1 1] w2 (Said B b (l ++ [49]) w2) := fun ob w1 w2 hb e => by
    subst e
    have hz := hb.size
    simp at hz
    exact say_one B b l ⟨[49].toArray⟩ _ _ _ (((H.out.alloc _).below hb).alloc _) (by rw [World.cell?_alloc_new]; rfl) (by show l.length + 1 ≤ _; omega) (by simp; omega)
  unfold exV
  go_enter Try.func12, Try.ntmps12
  go_wp2_with (first
    | (go_at_call 19; refine (HD _).mono ?_; rintro e w1 ⟨rfl, hb1⟩; have Hb1 := Lib.hid hb1; clear hb1)
    | (go_at_call 18; refine (H1 _ _ _ Hb1.out rfl).mono ?_; rintro e w3 ⟨rfl, hp, hb⟩; have HP := Lib.hid hp; clear hp))
  go_end0
  have hz := Hb1.out.size
  simp at hz
  exact ⟨rfl, HP.out, ((((Below.refl _ _).alloc hBw _).trans (Hb1.out.mono (by simp; omega))).alloc (by omega) _).trans hb⟩

/-- The kids of 'a + 1', as they lie. -/
def SumAt (w : World) (g : Nat) : Prop := w.heap[g]? = some (.cells #[.int .i64 3, .int .i64 0, .int .i64 0, .int .i64 0, .int .i64 0, .string ⟨#[97]⟩, .slice none 0 0, .int .i64 1, .int .i64 0, .int .i64 0, .int .i64 0, .int .i64 1, .string ⟨#[]⟩, .slice none 0 0] 40 (0, 0))
theorem SumAt.on {w w' : World} {g B : Nat} (h : SumAt w g) (hg : g < B) (hb : Below B w w') : SumAt w' g := (hb.block g hg).trans h

set_option maxHeartbeats 4000000 in
set_option maxRecDepth 100000 in
theorem pair_sum (B b : Nat) (g : Nat) (w : World) (h : IsPr B b [] w) (hs : SumAt w g) (hg : g < B) (hBw : B ≤ w.heap.size) :
    Calls Try.prog 24 #[.pointer (some ⟨b, 0, none⟩), .slice (some ⟨g, 0, none⟩) 2 2, .string ⟨#[43]⟩] w (Said B b [40, 97, 32, 43, 32, 49, 41] w) := by
  have L1 : Calls Try.prog 21 #[.pointer (some ⟨b, 0, none⟩), .string ⟨#[40]⟩, .slice (some ⟨g, 0, none⟩) 1 2, .string ⟨#[32, 43, 32]⟩] w (Said B b [40, 97, 32, 43, 32] w) :=
    list_one B b [] [97] ⟨#[40]⟩ ⟨#[32, 43, 32]⟩ g 0 2 3 0 0 0 0 ⟨#[97]⟩ none 0 0 w h (by rw [Lib.cell_of_heap hs]; rfl) (by rw [Lib.cell_of_heap hs]; rfl) (by rw [Lib.cell_of_heap hs]; rfl) (by rw [Lib.cell_of_heap hs]; rfl) (by rw [Lib.cell_of_heap hs]; rfl) (by rw [Lib.cell_of_heap hs]; rfl) (by rw [Lib.cell_of_heap hs]; rfl) hg (by decide) hBw
      (fun w2 hb hp hz => expr_name B b [40] 0 0 0 0 ⟨#[97]⟩ none 0 0 w2 hp (by decide) hz)
  have eT : (⟨#[32, 43, 32]⟩ : ByteArray) = ⟨#[32]⟩ ++ ⟨#[43]⟩ ++ ⟨#[32]⟩ := by decide +kernel
  rw [eT] at L1
  clear eT
  have L2 : ∀ w2, Below B w w2 → PrAt B b (.pointer (some ⟨b, 0, none⟩)) (Lib.byteCells [40, 97, 32, 43, 32]) w2 → Calls Try.prog 21 #[.pointer (some ⟨b, 0, none⟩), .string ⟨#[]⟩, .slice (some ⟨g, 7, none⟩) 1 1, .string ⟨#[41]⟩] w2 (Said B b [40, 97, 32, 43, 32, 49, 41] w2) := fun w2 hb hp => by
    have hs2 := hs.on hg hb
    exact list_one B b [40, 97, 32, 43, 32] [49] ⟨#[]⟩ ⟨#[41]⟩ g 7 1 1 0 0 0 1 ⟨#[]⟩ none 0 0 w2 (Or.inr hp) (by rw [Lib.cell_of_heap hs2]; rfl) (by rw [Lib.cell_of_heap hs2]; rfl) (by rw [Lib.cell_of_heap hs2]; rfl) (by rw [Lib.cell_of_heap hs2]; rfl) (by rw [Lib.cell_of_heap hs2]; rfl) (by rw [Lib.cell_of_heap hs2]; rfl) (by rw [Lib.cell_of_heap hs2]; rfl) hg (by decide) (Nat.le_trans hBw hb.size)
      (fun w3 hb3 hp3 hz => expr_one B b [40, 97, 32, 43, 32] w3 hp3 (by decide) hz)
  clear h hs
  go_enter Try.func24, Try.ntmps24
  go_wp2_with (first
    | (go_at_call 23; go_in)
    | (go_at_call 25; go_in))
  refine L1.mono ?_
  rintro e w1 ⟨rfl, hp, hb⟩
  have HP := Lib.hid hp
  clear hp L1
  go_wp2_with (first
    | (go_at_call 23; go_in)
    | (go_at_call 25; go_in))
  refine (L2 _ hb HP.out).mono ?_
  rintro e w2 ⟨rfl, hp, hb2⟩
  have HP2 := Lib.hid hp
  clear hp L2
  go_wp2
  go_end0
  exact ⟨rfl, HP2.out, hb.trans hb2⟩

set_option maxHeartbeats 4000000 in
set_option maxRecDepth 100000 in
theorem expr_sum (B b : Nat) (g : Nat) (w : World) (h : IsPr B b [] w) (hs : SumAt w g) (hg : g < B) (hBw : B ≤ w.heap.size) :
    Calls Try.prog 12 #[.pointer (some ⟨b, 0, none⟩), exV 5 0 0 4 0 ⟨#[]⟩ (some ⟨g, 0, none⟩) 2 2] w (Said B b [40, 97, 32, 43, 32, 49, 41] w) := by
  have HS := sign_any 4
  rw [signA_4] at HS
  have H1 : ∀ (ob : Obj) (w1 : World), w1 = (w.alloc ob).drew → Calls Try.prog 24 #[.pointer (some ⟨b, 0, none⟩), .slice (some ⟨g, 0, none⟩) 2 2, .string ⟨#[43]⟩] w1 (Said B b [40, 97, 32, 43, 32, 49, 41] w1) := fun ob w1 e => by
    subst e
    exact pair_sum B b g _ (h.alloc _) (hs.on hg (((Below.refl _ _).alloc hBw _).drew)) hg (by simp; omega)
  clear h hs
  unfold exV
  go_enter Try.func12, Try.ntmps12
  go_wp2
  go_region_with (first
    | (go_at_call 22; refine (HS _).mono ?_; rintro e w1 ⟨rfl, rfl⟩)
    | (go_at_call 24; refine (H1 _ _ rfl).mono ?_; rintro e w1 ⟨rfl, hp, hb⟩; have HP := Lib.hid hp; clear hp))
  all_goals
    go_wp2
    go_end0
    exact ⟨rfl, HP.out, (((Below.refl _ _).alloc hBw _).drew).trans hb⟩

set_option maxHeartbeats 4000000 in
theorem Expr_sum (g : Nat) (w : World) (hs : SumAt w g) (hg : g < w.heap.size) :
    Calls Try.prog 8 #[exV 5 0 0 4 0 ⟨#[]⟩ (some ⟨g, 0, none⟩) 2 2] w fun e w' => e = .returned (.string ⟨#[40, 97, 32, 43, 32, 49, 41]⟩) ∧ Below w.heap.size w w' := by
  have H1 : ∀ (ob : Obj) (w1 : World), w1 = (w.alloc ob).alloc (.cells #[.pointer none, .slice none 0 0] 55) → Calls Try.prog 12 #[.pointer (some ⟨w.heap.size + 1, 0, none⟩), exV 5 0 0 4 0 ⟨#[]⟩ (some ⟨g, 0, none⟩) 2 2] w1 (Said w.heap.size (w.heap.size + 1) [40, 97, 32, 43, 32, 49, 41] w1) := fun ob w1 e => by
    subst e
    have hb : Below w.heap.size w ((w.alloc ob).alloc (.cells #[.pointer none, .slice none 0 0] 55)) := ((Below.refl _ _).alloc (Nat.le_refl _) _).alloc (by simp) _
    have hp : IsPr w.heap.size (w.heap.size + 1) [] ((w.alloc ob).alloc (.cells #[.pointer none, .slice none 0 0] 55)) := by
      have := heap_alloc_new (w.alloc ob) (.cells #[.pointer none, .slice none 0 0] 55)
      rw [show (w.alloc ob).heap.size = w.heap.size + 1 by simp] at this
      exact Or.inl ⟨by omega, .slice none 0 0, this, World.ownsRow_nil _ _ _ _, by simp [Value.ownBlock]⟩
    exact expr_sum _ _ g _ hp (hs.on hg hb) hg (by simp; omega)
  have H2 : ∀ w2 : World, PrAt w.heap.size (w.heap.size + 1) (.pointer (some ⟨w.heap.size + 1, 0, none⟩)) (Lib.byteCells [40, 97, 32, 43, 32, 49, 41]) w2 → Calls Try.prog 13 #[.pointer (some ⟨w.heap.size + 1, 0, none⟩)] w2 fun e w' => e = .returned (.string ⟨#[40, 97, 32, 43, 32, 49, 41]⟩) ∧ Below w.heap.size w2 w' := fun w2 hp => string_any _ _ [40, 97, 32, 43, 32, 49, 41] w2 (Or.inr hp) (by simp)
  clear hs
  unfold exV at H1 ⊢
  go_enter Try.func8, Try.ntmps8
  go_wp2_with (first
    | (go_at_call 12; refine (H1 _ _ rfl).mono ?_; rintro e w1 ⟨rfl, hp, hb⟩; have HP := Lib.hid hp; clear hp)
    | (go_at_call 13; refine (H2 _ HP.out).mono ?_; rintro e w2 ⟨rfl, hb2⟩))
  go_ret
  exact ⟨rfl, ((((Below.refl _ _).alloc (Nat.le_refl _) _).alloc (by simp) _).trans hb).trans hb2⟩

set_option maxHeartbeats 4000000 in
theorem awake_any (w : World) : Calls Try.prog 5 #[] w fun e w' => e = .returned (.bool true) ∧ Below w.heap.size w w' := by
  have H1 : ∀ w1 : World, w1 = w.alloc (.cells #[.int .i64 3, .int .i64 0, .int .i64 0, .int .i64 0, .int .i64 0, .string ⟨#[97]⟩, .slice none 0 0, .int .i64 1, .int .i64 0, .int .i64 0, .int .i64 0, .int .i64 1, .string ⟨#[]⟩, .slice none 0 0] 40) → Calls Try.prog 8 #[exV 5 0 0 4 0 ⟨#[]⟩ (some ⟨w.heap.size, 0, none⟩) 2 2] w1 fun e w' => e = .returned (.string ⟨#[40, 97, 32, 43, 32, 49, 41]⟩) ∧ Below w1.heap.size w1 w' := fun w1 e => by
    subst e
    exact Expr_sum w.heap.size _ (heap_alloc_new w _) (by simp)
  unfold exV at H1
  go_enter Try.func5, Try.ntmps5
  go_wp2_with (go_at_call 8; refine (H1 _ rfl).mono ?_; rintro e w1 ⟨rfl, hb⟩)
  go_ret
  exact ⟨rfl, ((Below.refl _ _).alloc (Nat.le_refl _) _).trans (hb.mono (by simp))⟩
end Go.Proofs.Ytpnpjlggikdinaa
