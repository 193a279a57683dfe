/-
  Same at two programs of two functions each, as the law makes them.
-/
import Derived.Test.YtpnpjlggikdinaaTrS7
namespace Go.Proofs.Ytpnpjlggikdinaa
open Go.RowKit

/-- A program of the law's making, as it lies: its first function's cells. -/
def Prg (w : World) (g : Nat) (s : ByteArray) (a : Int) (P : Option Addr) (m c : Nat) (r : Int) (B : Option Addr) (mb cb : Nat) (v : Int) : Prop :=
  w.heap[g]? = some (.cells #[.string s, .int .i64 a, .slice P m c, .int .i64 r, .slice B mb cb, .int .i64 v, .string ⟨#[109, 97, 105, 110]⟩, .int .i64 0, .slice none 0 0, .int .i64 1, .slice none 0 0, .int .i64 0] 31 (0, 0))
theorem Prg.lt {w : World} {g : Nat} {s : ByteArray} {a : Int} {P : Option Addr} {m c : Nat} {r : Int} {B : Option Addr} {mb cb : Nat} {v : Int} (h : Prg w g s a P m c r B mb cb v) : g < w.heap.size := by
  unfold Prg at h
  rcases Nat.lt_or_ge g w.heap.size with h' | h'
  · exact h'
  · rw [Array.getElem?_eq_none h'] at h; cases h
theorem Prg.pair0 {w w2 : World} {g g' : Nat} {s s' : ByteArray} {a a' : Int} {P P' : Option Addr} {m c m' c' : Nat} {r r' : Int} {B B' : Option Addr} {mb cb mb' cb' : Nat} {v v' : Int} {b : Bool} (hb : Below w.heap.size w w2)
    (h : Prg w g s a P m c r B mb cb v) (h' : Prg w g' s' a' P' m' c' r' B' mb' cb' v')
    (H : ∀ w3, Below w.heap.size w w3 → Calls Try.prog 10 #[.agg #[.string s, .int .i64 a, .slice P m c, .int .i64 r, .slice B mb cb, .int .i64 v], .agg #[.string s', .int .i64 a', .slice P' m' c', .int .i64 r', .slice B' mb' cb', .int .i64 v']] w3 fun e w' => e = .returned (.bool b) ∧ Below w3.heap.size w3 w') :
    PairFn w2 w.heap.size (some ⟨g, 0, none⟩) (some ⟨g', 0, none⟩) 0 b := by
  have x := fun j => Lib.cell_of_heap ((hb.block g h.lt).trans h) j
  have y := fun j => Lib.cell_of_heap ((hb.block g' h'.lt).trans h') j
  exact ⟨g, 0, g', 0, s, a, P, m, c, r, B, mb, cb, v, s', a', P', m', c', r', B', mb', cb', v', rfl, rfl, h.lt, h'.lt, ⟨x 0, x 1, x 2, x 3, x 4, x 5⟩, ⟨y 0, y 1, y 2, y 3, y 4, y 5⟩, fun w3 h3 _ => H w3 (hb.trans h3)⟩
theorem Prg.pair1 {w w2 : World} {g g' : Nat} {s s' : ByteArray} {a a' : Int} {P P' : Option Addr} {m c m' c' : Nat} {r r' : Int} {B B' : Option Addr} {mb cb mb' cb' : Nat} {v v' : Int} (hb : Below w.heap.size w w2)
    (h : Prg w g s a P m c r B mb cb v) (h' : Prg w g' s' a' P' m' c' r' B' mb' cb' v') :
    PairFn w2 w.heap.size (some ⟨g, 0, none⟩) (some ⟨g', 0, none⟩) 1 true := by
  have x := fun j => Lib.cell_of_heap ((hb.block g h.lt).trans h) j
  have y := fun j => Lib.cell_of_heap ((hb.block g' h'.lt).trans h') j
  refine ⟨g, 0, g', 0, _, 0, none, 0, 0, 1, none, 0, 0, 0, _, 0, none, 0, 0, 1, none, 0, 0, 0, rfl, rfl, h.lt, h'.lt, ⟨x 6, x 7, x 8, x 9, x 10, x 11⟩, ⟨y 6, y 7, y 8, y 9, y 10, y 11⟩, fun w3 _ _ => ?_⟩
  exact sameFn_body _ 0 0 none 0 0 none 0 0 1 none 0 0 none 0 0 0 0 true w3 paramsNil stmtsNil
theorem Prg.same_true {w : World} {g g' : Nat} {s : ByteArray} {a a' : Int} {P P' : Option Addr} {m c m' c' : Nat} {r : Int} {B B' : Option Addr} {mb cb mb' cb' : Nat} {v v' : Int} (k k' : Nat)
    (h : Prg w g s a P m c r B mb cb v) (h' : Prg w g' s a' P' m' c' r B' mb' cb' v') (HP : ParamsSay w P P' m c m' c' true) (HB : StmtsSay w B B' mb cb mb' cb' true) :
    Calls Try.prog 6 #[.agg #[.slice (some ⟨g, 0, none⟩) 2 k], .agg #[.slice (some ⟨g', 0, none⟩) 2 k']] w fun e w' => e = .returned (.bool true) ∧ Below w.heap.size w w' := by
  refine same_any _ _ 2 2 k k' true w (fun w2 hb => ?_)
  refine listAll_Fn w.heap.size _ _ 2 k k' (by omega) w2 hb.size (fun i hi => ?_)
  obtain rfl | rfl : i = 0 ∨ i = 1 := by omega
  · exact h.pair0 hb h' (fun w3 h3 => sameFn_body s a a' P m c P' m' c' r B mb cb B' mb' cb' v v' true w3 (fun w4 h4 => HP w4 (h3.trans (h4.mono h3.size))) (fun w4 h4 => HB w4 (h3.trans (h4.mono h3.size))))
  · exact h.pair1 hb h'
theorem Prg.same_false {w : World} {g g' : Nat} {s s' : ByteArray} {a a' : Int} {P P' : Option Addr} {m c m' c' : Nat} {r r' : Int} {B B' : Option Addr} {mb cb mb' cb' : Nat} {v v' : Int} (k k' : Nat)
    (h : Prg w g s a P m c r B mb cb v) (h' : Prg w g' s' a' P' m' c' r' B' mb' cb' v')
    (H : ∀ w3, Below w.heap.size w w3 → Calls Try.prog 10 #[.agg #[.string s, .int .i64 a, .slice P m c, .int .i64 r, .slice B mb cb, .int .i64 v], .agg #[.string s', .int .i64 a', .slice P' m' c', .int .i64 r', .slice B' mb' cb', .int .i64 v']] w3 fun e w' => e = .returned (.bool false) ∧ Below w3.heap.size w3 w') :
    Calls Try.prog 6 #[.agg #[.slice (some ⟨g, 0, none⟩) 2 k], .agg #[.slice (some ⟨g', 0, none⟩) 2 k']] w fun e w' => e = .returned (.bool false) ∧ Below w.heap.size w w' := by
  refine same_any _ _ 2 2 k k' false w (fun w2 hb => ?_)
  exact listFirst_Fn w.heap.size _ _ 2 k k' (by omega) w2 hb.size (by omega) (h.pair0 hb h' H)
theorem same_len (A A' : Option Addr) (n m k k' : Nat) (h : n ≠ m) (w : World) :
    Calls Try.prog 6 #[.agg #[.slice A n k], .agg #[.slice A' m k']] w fun e w' => e = .returned (.bool false) ∧ Below w.heap.size w w' :=
  same_any A A' n m k k' false w (fun w2 _ => (listLen_Fn A A' n m k k' h w2).mono fun e w' ⟨he, hw⟩ => ⟨he, by rw [← hw]; exact Below.refl _ _⟩)
/-- A changed name; another result; other arguments; another body. -/
theorem Prg.name {w : World} {g g' : Nat} {s s' : ByteArray} {a a' : Int} {P P' : Option Addr} {m c m' c' : Nat} {r r' : Int} {B B' : Option Addr} {mb cb mb' cb' : Nat} {v v' : Int} (k k' : Nat)
    (h : Prg w g s a P m c r B mb cb v) (h' : Prg w g' s' a' P' m' c' r' B' mb' cb' v') (hs : (s.toList == s'.toList) = false) :
    Calls Try.prog 6 #[.agg #[.slice (some ⟨g, 0, none⟩) 2 k], .agg #[.slice (some ⟨g', 0, none⟩) 2 k']] w fun e w' => e = .returned (.bool false) ∧ Below w.heap.size w w' :=
  h.same_false k k' h' (fun w3 _ => sameFn_name s s' a a' P m c P' m' c' r r' B mb cb B' mb' cb' v v' w3 hs)
theorem Prg.ret {w : World} {g g' : Nat} {s : ByteArray} {a a' : Int} {P P' : Option Addr} {m c m' c' : Nat} {r r' : Int} {B B' : Option Addr} {mb cb mb' cb' : Nat} {v v' : Int} (k k' : Nat)
    (h : Prg w g s a P m c r B mb cb v) (h' : Prg w g' s a' P' m' c' r' B' mb' cb' v') (hr : (r == r') = false) :
    Calls Try.prog 6 #[.agg #[.slice (some ⟨g, 0, none⟩) 2 k], .agg #[.slice (some ⟨g', 0, none⟩) 2 k']] w fun e w' => e = .returned (.bool false) ∧ Below w.heap.size w w' :=
  h.same_false k k' h' (fun w3 _ => sameFn_ret s a a' P m c P' m' c' r r' B mb cb B' mb' cb' v v' w3 hr)
theorem Prg.params {w : World} {g g' : Nat} {s : ByteArray} {a a' : Int} {P P' : Option Addr} {m c m' c' : Nat} {r : Int} {B B' : Option Addr} {mb cb mb' cb' : Nat} {v v' : Int} (k k' : Nat)
    (h : Prg w g s a P m c r B mb cb v) (h' : Prg w g' s a' P' m' c' r B' mb' cb' v') (hm : m ≠ m') :
    Calls Try.prog 6 #[.agg #[.slice (some ⟨g, 0, none⟩) 2 k], .agg #[.slice (some ⟨g', 0, none⟩) 2 k']] w fun e w' => e = .returned (.bool false) ∧ Below w.heap.size w w' :=
  h.same_false k k' h' (fun w3 _ => sameFn_params s a a' P m c P' m' c' r B mb cb B' mb' cb' v v' w3 (paramsNe hm))
theorem Prg.body {w : World} {g g' : Nat} {s : ByteArray} {a a' : Int} {P P' : Option Addr} {m c m' c' : Nat} {r : Int} {B B' : Option Addr} {mb cb mb' cb' : Nat} {v v' : Int} (k k' : Nat)
    (h : Prg w g s a P m c r B mb cb v) (h' : Prg w g' s a' P' m' c' r B' mb' cb' v') (HP : ParamsSay w P P' m c m' c' true) (HB : StmtsSay w B B' mb cb mb' cb' false) :
    Calls Try.prog 6 #[.agg #[.slice (some ⟨g, 0, none⟩) 2 k], .agg #[.slice (some ⟨g', 0, none⟩) 2 k']] w fun e w' => e = .returned (.bool false) ∧ Below w.heap.size w w' :=
  h.same_false k k' h' (fun w3 h3 => sameFn_body s a a' P m c P' m' c' r B mb cb B' mb' cb' v v' false w3 (fun w4 h4 => HP w4 (h3.trans (h4.mono h3.size))) (fun w4 h4 => HB w4 (h3.trans (h4.mono h3.size))))
end Go.Proofs.Ytpnpjlggikdinaa
