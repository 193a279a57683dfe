/-
  The runner as it lies.
  The runner's small functions: deep, get, list, below.
  The runner's small functions: stop, take, enter, list.
-/
import Derived.Test.YtagagpappjkgbaaJx3
import Derived.Test.YtagagpappjkgbaaJx8
import Derived.StillTailTactics
import Derived.Laws.Rows
namespace Go.Proofs.Ytagagpappjkgbaa
set_option linter.unusedVariables false
set_option linter.unusedSimpArgs false
open Go.RowKit

/-- Where things lie. -/
structure XM where
  inA : Option Addr
  inC : Nat
  sa : Nat → Option Addr
  sc : Nat → Nat
  fA : Option Addr
  fC : Nat
  tb : Nat → Nat
  pb : Nat → Nat
  cb : Nat → Nat
  tA : Nat → Option Addr
  tC : Nat → Nat
  fv : List FV

def vCell (tb : Nat → Nat) (x : XV) : List Value := [.int .i64 x.n, .pointer (x.of_.map fun t => ⟨tb t, 0, none⟩)]
def pCell (tb : Nat → Nat) (p : XPl) : List Value := [.int .i64 p.v.n, .pointer (p.v.of_.map fun t => ⟨tb t, 0, none⟩), .int .i64 p.deep]
def kCell (tb pb : Nat → Nat) (k : XK) : List Value := [.pointer (some ⟨pb k.fn, k.id * 3, none⟩), .int .i64 k.was.v.n, .pointer (k.was.v.of_.map fun t => ⟨tb t, 0, none⟩), .int .i64 k.was.deep]
def cCell (c : XC) : List Value := [.int .i64 c.which, .int .i64 c.block, .int .i64 c.at_, .int .i64 c.args, .int .i64 c.kept]
def wCell (p : Int × Int) : List Value := [.int .i64 p.1, .int .i64 p.2]
def fRow (M : XM) : Nat → List (SF × FV) → List Value
  | _, [] => []
  | i, (f, v) :: l => .string v.s :: v.p :: .int .i64 f.ret :: v.i :: v.b :: .slice (some ⟨M.cb i, 0, none⟩) f.blocks.length f.blocks.length :: .slice (some ⟨M.pb i, 0, none⟩) f.ins.length f.ins.length :: fRow M (i + 1) l
theorem fRow_at (M : XM) : ∀ (l : List (SF × FV)) (k j : Nat) (f : SF) (v : FV), l[j]? = some (f, v) →
    (fRow M k l)[j * 7 + 3]? = some v.i ∧ (fRow M k l)[j * 7 + 4]? = some v.b ∧ (fRow M k l)[j * 7 + 5]? = some (.slice (some ⟨M.cb (k + j), 0, none⟩) f.blocks.length f.blocks.length) ∧ (fRow M k l)[j * 7 + 6]? = some (.slice (some ⟨M.pb (k + j), 0, none⟩) f.ins.length f.ins.length)
  | [], k, j, f, v, h => by cases h
  | (f', v') :: l, k, 0, f, v, h => by
    injection h with h
    injection h with h1 h2
    subst h1; subst h2
    exact ⟨rfl, rfl, rfl, rfl⟩
  | p :: l, k, j + 1, f, v, h => by
    have := fRow_at M l (k + 1) j f v h
    obtain ⟨f', v'⟩ := p
    rw [show (j + 1) * 7 = j * 7 + 7 by omega]
    rw [show k + 1 + j = k + (j + 1) by omega] at this
    exact this
theorem flat_at {α : Type} (f : α → List Value) (z : Nat) (hz : ∀ a, (f a).length = z) : ∀ (l : List α) (i : Nat) (a : α), l[i]? = some a → ∀ q, q < z → (l.flatMap f)[i * z + q]? = (f a)[q]?
  | [], i, a, h, q, hq => by cases h
  | b :: l, 0, a, h, q, hq => by
    injection h with h
    subst h
    rw [List.flatMap_cons, Nat.zero_mul, Nat.zero_add, List.getElem?_append_left (by rw [hz]; exact hq)]
  | b :: l, i + 1, a, h, q, hq => by
    rw [List.flatMap_cons, List.getElem?_append_right (by rw [hz, Nat.add_mul]; omega), hz, show (i + 1) * z + q - z = i * z + q by rw [Nat.add_mul]; omega]
    exact flat_at f z hz l i a h q hq
theorem flat_len {α : Type} (f : α → List Value) (z : Nat) (hz : ∀ a, (f a).length = z) : ∀ (l : List α), (l.flatMap f).length = l.length * z
  | [] => by simp
  | b :: l => by rw [List.flatMap_cons, List.length_append, hz, flat_len f z hz l, List.length_cons, Nat.add_mul]; omega

def endX' (r : XR) : Int := (r.stop.map Prod.fst).getD 0
def valX (r : XR) : Int := (r.stop.map Prod.snd).getD 0
def xCells (r : XR) (n : Nat) (M : XM) : List Value :=
  [.slice M.inA r.inn.length M.inC, .int .i64 r.left, .slice (M.sa 0) r.events.length (M.sc 0), .int .i64 (endX' r), .int .i64 (valX r), .int .i64 0, .int .i64 0, .int .i64 0, .int .i64 0, .bool r.stop.isSome, .slice M.fA n M.fC,
    .int .i64 r.now.which, .int .i64 r.now.block, .int .i64 r.now.at_, .int .i64 r.now.args, .int .i64 r.now.kept,
    .slice (M.sa 1) r.outer.length (M.sc 1), .slice (M.sa 2) r.args.length (M.sc 2), .slice (M.sa 3) r.kept.length (M.sc 3), .slice (M.sa 4) r.coming.length (M.sc 4)]
def tabR (M : XM) (t : Nat) (T : XT) : GRw := ⟨162, 3, .slice (some ⟨M.tb t, 0, none⟩) 1 1, 1, [.int .i64 T.rows, .int .i64 T.cols, .slice (M.tA t) T.cells.length (M.tC t)]⟩
def celR (M : XM) (t : Nat) (T : XT) : GRw := ⟨2, 1, .slice (M.tA t) T.cells.length (M.tC t), T.cells.length, intsV T.cells⟩
def plaR (M : XM) (i : Nat) (ps : List XPl) : GRw := ⟨176, 3, .slice (some ⟨M.pb i, 0, none⟩) ps.length ps.length, ps.length, ps.flatMap (pCell M.tb)⟩
def comR (M : XM) (i : Nat) (L : List (Int × Int)) : GRw := ⟨131, 2, .slice (some ⟨M.cb i, 0, none⟩) L.length L.length, L.length, L.flatMap wCell⟩
def rowX (r : XR) (M : XM) : Nat → GRw
  | 0 => ⟨2, 1, .slice (M.sa 0) r.events.length (M.sc 0), r.events.length, intsV r.events⟩
  | 1 => ⟨97, 5, .slice (M.sa 1) r.outer.length (M.sc 1), r.outer.length, r.outer.flatMap cCell⟩
  | 2 => ⟨156, 2, .slice (M.sa 2) r.args.length (M.sc 2), r.args.length, r.args.flatMap (vCell M.tb)⟩
  | 3 => ⟨179, 4, .slice (M.sa 3) r.kept.length (M.sc 3), r.kept.length, r.kept.flatMap (kCell M.tb M.pb)⟩
  | _ => ⟨156, 2, .slice (M.sa 4) r.coming.length (M.sc 4), r.coming.length, r.coming.flatMap (vCell M.tb)⟩
structure XOk (n0 base E : Nat) (fs : List SF) (cm : List (List (Int × Int))) (r : XR) (M : XM) (F : Nat → GRw) (w : World) : Prop where
  sq : Sq 102 w base E F (xCells r fs.length M)
  fr : ∀ k, k < 5 → F k = rowX r M k
  ol : r.outer.length ≤ 1048576
  f5 : F 5 = ⟨106, 7, .slice M.fA fs.length M.fC, fs.length, fRow M 0 (fs.zip M.fv)⟩
  fc : ∀ (i : Nat) (L : List (Int × Int)), cm[i]? = some L → F (6 + 4 * i) = comR M i L
  fp : ∀ (i : Nat) (ps : List XPl), r.places[i]? = some ps → F (7 + 4 * i) = plaR M i ps
  ft : ∀ (t : Nat) (T : XT), r.tabs[t]? = some T → F (8 + 4 * t) = tabR M t T ∧ F (9 + 4 * t) = celR M t T
  fn : ∀ t : Nat, r.tabs.length ≤ t → F (8 + 4 * t) = noRow ∧ F (9 + 4 * t) = noRow
  lv : M.fv.length = fs.length
  lb : fs.length ≤ 1048576
  pn : r.places.length = fs.length
  cn : cm.length = fs.length
  lp : ∀ (i : Nat) (f : SF) (ps : List XPl), fs[i]? = some f → r.places[i]? = some ps → ps.length = f.ins.length
  lc : ∀ (i : Nat) (f : SF) (L : List (Int × Int)), fs[i]? = some f → cm[i]? = some L → L.length = f.blocks.length
  sr : ∀ (i : Nat) (f : SF) (v : FV), fs[i]? = some f → M.fv[i]? = some v → SIs n0 w v.i f.ins ∧ SBs n0 w v.b f.blocks ∧ f.ins.length ≤ 1048576 ∧ f.blocks.length ≤ 1048576
  ls : ∀ f ∈ fs, ∀ k ∈ f.blocks, k.list.length ≤ 1048576
  inn : GNs n0 w (.slice M.inA r.inn.length M.inC) r.inn
  ic : r.inn.length ≤ M.inC ∧ M.inC ≤ 9223372036854775807
  n0b : n0 ≤ base
  lf : 0 ≤ r.left ∧ r.left ≤ 1152921504606846976
theorem XOk.keep {n0 base E : Nat} {fs : List SF} {cm : List (List (Int × Int))} {r : XR} {M : XM} {F : Nat → GRw} {w w' : World} (h : XOk n0 base E fs cm r M F w) (hb : Below w.heap.size w w') : XOk n0 base E fs cm r M F w' := by
  have h0 : Below n0 w w' := hb.mono (Nat.le_trans h.n0b h.sq.hb)
  exact ⟨h.sq.keep hb, h.fr, h.ol, h.f5, h.fc, h.fp, h.ft, h.fn, h.lv, h.lb, h.pn, h.cn, h.lp, h.lc, fun i f v hf hv => ⟨(h.sr i f v hf hv).1.keep h0, (h.sr i f v hf hv).2.1.keep h0, (h.sr i f v hf hv).2.2⟩, h.ls, h.inn.keep h0, h.ic, h.n0b, h.lf⟩
/-- The struct's own cells are others now. -/
theorem XOk.re {n0 base E : Nat} {fs : List SF} {cm : List (List (Int × Int))} {r r' : XR} {M : XM} {F : Nat → GRw} {w w' : World} (h : XOk n0 base E fs cm r M F w) (hsq : Sq 102 w' base E F (xCells r' fs.length M)) (hb : Below base w w') (hl : 0 ≤ r'.left ∧ r'.left ≤ 1152921504606846976)
    (h0 : r'.events = r.events) (h1 : r'.outer = r.outer) (h2 : r'.args = r.args) (h3 : r'.kept = r.kept) (h4 : r'.coming = r.coming) (h5 : r'.places = r.places) (h6 : r'.tabs = r.tabs) (h7 : r'.inn = r.inn) : XOk n0 base E fs cm r' M F w' := by
  have hn : Below n0 w w' := hb.mono h.n0b
  have hrow : ∀ k, rowX r' M k = rowX r M k := fun k => by
    rcases k with _ | _ | _ | _ | k <;> simp only [rowX, h0, h1, h2, h3, h4]
  refine ⟨hsq, fun k hk => by rw [hrow]; exact h.fr k hk, by rw [h1]; exact h.ol, h.f5, h.fc, by rw [h5]; exact h.fp, by rw [h6]; exact h.ft, by rw [h6]; exact h.fn, h.lv, h.lb, by rw [h5]; exact h.pn, h.cn, by rw [h5]; exact h.lp, h.lc, fun i f v hf hv => ⟨(h.sr i f v hf hv).1.keep hn, (h.sr i f v hf hv).2.1.keep hn, (h.sr i f v hf hv).2.2⟩, h.ls, by rw [h7]; exact h.inn.keep hn, by rw [h7]; exact h.ic, h.n0b, hl⟩
/-- Another place for one of the five stacks. -/
def upM (M : XM) (k : Nat) (A : Option Addr) (c : Nat) : XM := { M with sa := fun j => if j = k then A else M.sa j, sc := fun j => if j = k then c else M.sc j }
theorem fRow_cong {M M' : XM} (hc : M'.cb = M.cb) (hp : M'.pb = M.pb) : ∀ (l : List (SF × FV)) (i : Nat), fRow M' i l = fRow M i l
  | [], i => rfl
  | (f, v) :: l, i => by simp only [fRow, hc, hp, fRow_cong hc hp l (i + 1)]
/-- One of the five stacks is another one now; the struct's cell of it is set behind. -/
theorem XOk.row {n0 base E : Nat} {fs : List SF} {cm : List (List (Int × Int))} {r r' : XR} {M : XM} {F : Nat → GRw} {w w1 : World} (h : XOk n0 base E fs cm r M F w) (k : Nat) (hk : k < 5) (g : Nat) (n c : Nat)
    (hg : w.grownBy w1 (F k).v.ownBlock) (hn : (rowX r' (upM M k (some ⟨g, 0, none⟩) c) k).v = .slice (some ⟨g, 0, none⟩) n c)
    (hown : w1.ownsRow base (rowX r' (upM M k (some ⟨g, 0, none⟩) c) k).T (rowX r' (upM M k (some ⟨g, 0, none⟩) c) k).z (rowX r' (upM M k (some ⟨g, 0, none⟩) c) k).v (rowX r' (upM M k (some ⟨g, 0, none⟩) c) k).n (rowX r' (upM M k (some ⟨g, 0, none⟩) c) k).xs)
    (hat : (F k).v.ownBlock = some g ∨ w.heap.size ≤ g)
    (hrows : ∀ l, l < 5 → l ≠ k → rowX r' (upM M k (some ⟨g, 0, none⟩) c) l = rowX r M l)
    (j : Nat) (u : Value) (hcells : (xCells r fs.length M).set j u = xCells r' fs.length (upM M k (some ⟨g, 0, none⟩) c))
    (ho : r'.outer.length ≤ 1048576) (hl : r'.left = r.left) (h5 : r'.places = r.places) (h6 : r'.tabs = r.tabs) (h7 : r'.inn = r.inn) :
    (∃ F', XOk n0 base E fs cm r' (upM M k (some ⟨g, 0, none⟩) c) F' (w1.setCell ⟨E, j, none⟩ u)) ∧ Below base w (w1.setCell ⟨E, j, none⟩ u) ∧ (∀ q v, (xCells r fs.length M)[q]? = some v → w1.cell? ⟨E, q, none⟩ = some v) ∧ (∀ q, w1.frozen? ⟨E, q, none⟩ = false) := by
  have s1 := h.sq.grown k hg (rowX r' (upM M k (some ⟨g, 0, none⟩) c) k) hown (fun g' e => by
    rw [hn] at e
    simp only [Value.ownBlock, Option.some.injEq] at e
    subst e
    exact hat)
  have s2 := s1.field j u
  rw [hcells] at s2
  have hb1 : Below base w w1 := h.sq.b_grown k hg
  have hb : Below base w (w1.setCell ⟨E, j, none⟩ u) := hb1.setCell (p := ⟨E, j, none⟩) h.sq.bE u
  have hn0 : Below n0 w (w1.setCell ⟨E, j, none⟩ u) := hb.mono h.n0b
  refine ⟨⟨_, ⟨s2, fun l hl => ?_, ho, ?_, fun i L hL => ?_, fun i ps hps => ?_, fun t T hT => ?_, fun t ht => ?_, h.lv, h.lb, by rw [h5]; exact h.pn, h.cn, by rw [h5]; exact h.lp, h.lc, fun i f v hf hv => ⟨(h.sr i f v hf hv).1.keep hn0, (h.sr i f v hf hv).2.1.keep hn0, (h.sr i f v hf hv).2.2⟩, h.ls, by rw [h7]; exact h.inn.keep hn0, by rw [h7]; exact h.ic, h.n0b, by rw [hl]; exact h.lf⟩⟩, hb, fun q v hq => s1.cell q v hq, fun q => s1.fro q⟩
  · by_cases e : l = k
    · subst e; rw [upG_at]
    · rw [upG_off _ _ _ _ e, hrows l hl e]; exact h.fr l hl
  · rw [upG_off _ _ _ _ (by omega), fRow_cong (M := M) (M' := upM M k (some ⟨g, 0, none⟩) c) rfl rfl]; exact h.f5
  · rw [upG_off _ _ _ _ (by omega)]; exact h.fc i L hL
  · rw [upG_off _ _ _ _ (by omega)]; rw [h5] at hps; exact h.fp i ps hps
  · rw [upG_off _ _ _ _ (by omega), upG_off _ _ _ _ (by omega)]; rw [h6] at hT; exact h.ft t T hT
  · rw [upG_off _ _ _ _ (by omega), upG_off _ _ _ _ (by omega)]; rw [h6] at ht; exact h.fn t ht
/-- A function's own rows, as they stand in the row of functions. -/
theorem XOk.fn_at {n0 base E : Nat} {fs : List SF} {cm : List (List (Int × Int))} {r : XR} {M : XM} {F : Nat → GRw} {w : World} (h : XOk n0 base E fs cm r M F w) {i : Nat} {f : SF} (hf : fs[i]? = some f) :
    ∃ (fb : Nat) (v : FV), M.fA = some ⟨fb, 0, none⟩ ∧ i < fs.length ∧ w.cell? ⟨fb, i * 7 + 3, none⟩ = some v.i ∧ w.cell? ⟨fb, i * 7 + 4, none⟩ = some v.b ∧ w.cell? ⟨fb, i * 7 + 5, none⟩ = some (.slice (some ⟨M.cb i, 0, none⟩) f.blocks.length f.blocks.length) ∧ w.cell? ⟨fb, i * 7 + 6, none⟩ = some (.slice (some ⟨M.pb i, 0, none⟩) f.ins.length f.ins.length) ∧
      SIs n0 w v.i f.ins ∧ SBs n0 w v.b f.blocks ∧ f.ins.length ≤ 1048576 ∧ f.blocks.length ≤ 1048576 := by
  have hi : i < fs.length := (List.getElem?_eq_some_iff.mp hf).1
  have hiv : i < M.fv.length := by rw [h.lv]; exact hi
  have hv : M.fv[i]? = some M.fv[i] := List.getElem?_eq_getElem hiv
  have ho := h.sq.at h.f5
  have hz : (fs.zip M.fv)[i]? = some (f, M.fv[i]) := by rw [List.getElem?_zip_eq_some]; exact ⟨hf, hv⟩
  obtain ⟨a3, a4, a5, a6⟩ := fRow_at M (fs.zip M.fv) 0 i f _ hz
  rw [Nat.zero_add] at a5 a6
  rcases ho.2 with ⟨e, e0⟩ | ⟨fb, cap, cur, e, -⟩
  · exact absurd e0 (by show fs.length ≠ 0; omega)
  · have e1 : M.fA = some ⟨fb, 0, none⟩ := by injection e
    rw [show (⟨106, 7, .slice M.fA fs.length M.fC, fs.length, fRow M 0 (fs.zip M.fv)⟩ : GRw) = ⟨106, 7, .slice (some ⟨fb, 0, none⟩) fs.length M.fC, fs.length, fRow M 0 (fs.zip M.fv)⟩ by rw [e1]] at ho
    have c : ∀ q, q < fs.length * 7 → w.cell? ⟨fb, q, none⟩ = (fRow M 0 (fs.zip M.fv))[q]? := fun q hq => ho.cellAt q hq
    obtain ⟨s1, s2, s3, s4⟩ := h.sr i f _ hf hv
    exact ⟨fb, M.fv[i], e1, hi, (c _ (by omega)).trans a3, (c _ (by omega)).trans a4, (c _ (by omega)).trans a5, (c _ (by omega)).trans a6, s1, s2, s3, s4⟩
theorem XOk.place_at {n0 base E : Nat} {fs : List SF} {cm : List (List (Int × Int))} {r : XR} {M : XM} {F : Nat → GRw} {w : World} (h : XOk n0 base E fs cm r M F w) {i id : Nat} {ps : List XPl} {p : XPl} (hp : r.places[i]? = some ps) (hq : ps[id]? = some p) :
    w.cell? ⟨M.pb i, id * 3, none⟩ = some (.int .i64 p.v.n) ∧ w.cell? ⟨M.pb i, id * 3 + 1, none⟩ = some (.pointer (p.v.of_.map fun t => ⟨M.tb t, 0, none⟩)) ∧ w.cell? ⟨M.pb i, id * 3 + 2, none⟩ = some (.int .i64 p.deep) := by
  have hi : id < ps.length := (List.getElem?_eq_some_iff.mp hq).1
  have ho := h.sq.at (h.fp i ps hp)
  have c : ∀ q, q < ps.length * 3 → w.cell? ⟨M.pb i, q, none⟩ = (ps.flatMap (pCell M.tb))[q]? := fun q hq => ho.cellAt q hq
  have a := flat_at (pCell M.tb) 3 (fun _ => rfl) ps id p hq
  exact ⟨(c _ (by omega)).trans (a 0 (by omega)), (c _ (by omega)).trans (a 1 (by omega)), (c _ (by omega)).trans (a 2 (by omega))⟩
end Go.Proofs.Ytagagpappjkgbaa
namespace Go.Proofs.Ytagagpappjkgbaa
set_option linter.unusedVariables false
set_option linter.unusedSimpArgs false
open Go.RowKit

theorem below_c (n most : Int) (w : World) : Calls Try.prog 128 #[.int .i64 n, .int .i64 most] w fun e w' => e = .returned (.bool (belowX n most)) ∧ w' = w := by
  obtain ⟨res, hres⟩ : ∃ res, res = belowX n most := ⟨_, rfl⟩
  rw [← hres]
  unfold belowX at hres
  by_cases h0 : 0 ≤ n
  · have d1 : decide (n ≥ 0) = true := decide_eq_true h0
    rw [decide_eq_true h0, Bool.true_and] at hres
    by_cases h1 : n < most
    · have d2 : decide (n < most) = true := decide_eq_true h1
      rw [d2] at hres
      subst hres
      clear h0 h1
      go_enter Try.func128, Try.ntmps128
      go_wp2
      go_ret
      exact ⟨rfl, rfl⟩
    · have d2 : decide (n < most) = false := decide_eq_false h1
      rw [d2] at hres
      subst hres
      clear h0 h1
      go_enter Try.func128, Try.ntmps128
      go_wp2
      go_ret
      exact ⟨rfl, rfl⟩
  · have d1 : decide (n ≥ 0) = false := decide_eq_false h0
    rw [decide_eq_false h0, Bool.false_and] at hres
    subst hres
    clear h0
    go_enter Try.func128, Try.ntmps128
    go_wp2
    go_ret
    exact ⟨rfl, rfl⟩
section
variable {n0 base E : Nat} {fs : List SF} {cm : List (List (Int × Int))} {r : XR} {M : XM} {F : Nat → GRw} {w : World}
theorem deep_c (h : XOk n0 base E fs cm r M F w) : Calls Try.prog 126 #[.pointer (some ⟨E, 0, none⟩)] w fun e w' => e = .returned (.int .i64 (deepX r : Int)) ∧ w' = w := by
  have x16 := h.sq.cell 16 _ rfl
  have hl := h.ol
  unfold deepX
  clear h
  generalize r.outer.length = n at *
  go_enter Try.func126, Try.ntmps126
  go_wp2
  go_ret
  exact ⟨rfl, rfl⟩
theorem XOk.some_fn (h : XOk n0 base E fs cm r M F w) {ps : List XPl} {i : Nat} (hp : r.places[i]? = some ps) : ∃ f, fs[i]? = some f ∧ ps.length = f.ins.length := by
  have hi : i < fs.length := by rw [← h.pn]; exact (List.getElem?_eq_some_iff.mp hp).1
  exact ⟨_, List.getElem?_eq_getElem hi, h.lp i _ ps (List.getElem?_eq_getElem hi) hp⟩
theorem getX_some {r : XR} {id : Int} {v : XV} (hg : getX r id = some v) : ∃ (k : Nat) (ps : List XPl) (p : XPl), id = (k : Int) ∧ r.places[r.now.which]? = some ps ∧ ps[k]? = some p ∧ v = p.v := by
  unfold getX at hg
  split at hg
  · next h0 =>
    rw [Option.map_eq_some_iff] at hg
    obtain ⟨p, hp, rfl⟩ := hg
    rw [Option.bind_eq_some_iff] at hp
    obtain ⟨ps, h1, h2⟩ := hp
    exact ⟨id.toNat, ps, p, by omega, h1, h2, rfl⟩
  · cases hg
set_option maxRecDepth 100000 in
set_option maxHeartbeats 4000000 in
theorem get_c (h : XOk n0 base E fs cm r M F w) (id : Int) (v : XV) (hg : getX r id = some v) :
    Calls Try.prog 103 #[.pointer (some ⟨E, 0, none⟩), .int .i64 id] w fun e w' => e = .returned (.agg #[.int .i64 v.n, .pointer (v.of_.map fun t => ⟨M.tb t, 0, none⟩)]) ∧ Below w.heap.size w w' := by
  obtain ⟨k, ps, p, rfl, hp, hq, rfl⟩ := getX_some hg
  obtain ⟨W, hW, hbW, hzW, h0W⟩ := gr_one w #[.int .i64 0, .pointer none] 156
  have h' := h.keep hbW
  obtain ⟨f, hf, hpl⟩ := h.some_fn hp
  obtain ⟨fb, fv, hfA, hi, -, -, -, c6, -, -, hib, -⟩ := h'.fn_at hf
  obtain ⟨p0, p1, -⟩ := h'.place_at hp hq
  have x10 := h'.sq.cell 10 _ rfl
  have x11 := h'.sq.cell 11 _ rfl
  have hk : k < ps.length := (List.getElem?_eq_some_iff.mp hq).1
  rw [hpl] at hk
  rw [hfA] at x10
  have hfb := h.lb
  obtain ⟨pv, hpv⟩ : ∃ pv : Option Addr, pv = p.v.of_.map (fun t => ⟨M.tb t, 0, none⟩) := ⟨_, rfl⟩
  rw [← hpv] at p1 ⊢
  obtain ⟨y0, y1, -⟩ : W.cell? ⟨w.heap.size, 0, none⟩ = some (.int .i64 0) ∧ W.cell? ⟨w.heap.size, 1, none⟩ = some (.pointer none) ∧ True := ⟨Lib.cell_of_heap h0W 0, Lib.cell_of_heap h0W 1, trivial⟩
  have yf0 := Lib.frozen_of_heap h0W 0
  have yf1 := Lib.frozen_of_heap h0W 1
  obtain ⟨Z, hZ⟩ : ∃ Z, Z = ((W.setCell ⟨w.heap.size, 0, none⟩ (.int .i64 p.v.n)).setCell ⟨w.heap.size, 1, none⟩ (.pointer pv)).drew := ⟨_, rfl⟩
  have hqZ : Z.heap[w.heap.size]? = some (.cells #[.int .i64 p.v.n, .pointer pv] 156 (0, 0)) := by
    rw [hZ]
    exact gr_put (gr_put h0W 0 _) 1 _
  have hbZ : Below w.heap.size w Z := by
    rw [hZ]
    exact ((hbW.setCell (p := ⟨w.heap.size, 0, none⟩) (Nat.le_refl _) _).setCell (p := ⟨w.heap.size, 1, none⟩) (Nat.le_refl _) _).drew
  generalize r.now.which = i at *
  generalize fs.length = fn at *
  generalize f.ins.length = inn at *
  have HW := Lib.hid hW
  have HZ := Lib.hid hZ
  have HqZ := Lib.hid hqZ
  have HbZ := Lib.hid hbZ
  clear h h' hg hp hq hf hfA hpl hpv hW hbW hzW h0W hZ hqZ hbZ
  go_enter Try.func103, Try.ntmps103
  go_upto_region 1 with fail
  rw [← HW.out]
  go_still_tail 16, (by kernel_rfl)
  change wpList _ _ _ _ _ W.drew
  go_wp2
  rw [← HZ.out]
  try simp only [Exit.inBlock, Exit.then]
  refine bodyPost_ret (results_cell_row rfl _ _ w.heap.size _ _ _ _ rfl HqZ.out Try.underlying156 rfl (by kernel_rfl)) rfl ?_
  exact ⟨rfl, HbZ.out⟩
end
end Go.Proofs.Ytagagpappjkgbaa
namespace Go.Proofs.Ytagagpappjkgbaa
set_option linter.unusedVariables false
set_option linter.unusedSimpArgs false
open Go.RowKit Go.Shelf

section
variable {n0 base E : Nat} {fs : List SF} {cm : List (List (Int × Int))} {r : XR} {M : XM} {F : Nat → GRw} {w : World}
/-- What a method leaves: the runner in another state. -/
def XNow (n0 base E : Nat) (fs : List SF) (cm : List (List (Int × Int))) (r : XR) (w w' : World) : Prop := (∃ (M : XM) (F : Nat → GRw), XOk n0 base E fs cm r M F w') ∧ Below base w w'
set_option maxRecDepth 100000 in
set_option maxHeartbeats 4000000 in
theorem stop_c (h : XOk n0 base E fs cm r M F w) (how v : Int) : Calls Try.prog 101 #[.pointer (some ⟨E, 0, none⟩), .int .i64 how, .int .i64 v] w fun e w' => e = .returned (.tuple #[]) ∧ XOk n0 base E fs cm (stopX r how v) M F w' ∧ Below base w w' := by
  have s1 := h.sq.field 3 (.int .i64 how)
  have s2 := s1.field 4 (.int .i64 v)
  have s3 := s2.field 9 (.bool true)
  have hb : Below base w (((w.setCell ⟨E, 3, none⟩ (.int .i64 how)).setCell ⟨E, 4, none⟩ (.int .i64 v)).setCell ⟨E, 9, none⟩ (.bool true)) := (((Below.refl base w).setCell (p := ⟨E, 3, none⟩) h.sq.bE _).setCell (p := ⟨E, 4, none⟩) h.sq.bE _).setCell (p := ⟨E, 9, none⟩) h.sq.bE _
  have hx : XOk n0 base E fs cm (stopX r how v) M F (((w.setCell ⟨E, 3, none⟩ (.int .i64 how)).setCell ⟨E, 4, none⟩ (.int .i64 v)).setCell ⟨E, 9, none⟩ (.bool true)) := h.re s3 hb h.lf rfl rfl rfl rfl rfl rfl rfl rfl
  have x3 := h.sq.cell 3 _ rfl
  have x4 := h.sq.cell 4 _ rfl
  have x9 := h.sq.cell 9 _ rfl
  have xf := h.sq.fro
  obtain ⟨X, hX⟩ : ∃ X, X = (((w.setCell ⟨E, 3, none⟩ (.int .i64 how)).setCell ⟨E, 4, none⟩ (.int .i64 v)).setCell ⟨E, 9, none⟩ (.bool true)) := ⟨_, rfl⟩
  rw [← hX] at hx hb
  have HX := Lib.hid hX
  have Hx := Lib.hid hx
  have Hb := Lib.hid hb
  clear h s1 s2 s3 hx hb hX
  go_enter Try.func101, Try.ntmps101
  go_wp2
  rw [← HX.out]
  try simp only [Exit.inBlock, Exit.then]
  refine bodyPost_end (results_none rfl _ _ _) rfl ?_
  exact ⟨rfl, Hx.out, Hb.out⟩
set_option maxRecDepth 100000 in
set_option maxHeartbeats 4000000 in
theorem take_c (h : XOk n0 base E fs cm r M F w) (n : Int) (hn : 0 ≤ n) : Calls Try.prog 77 #[.pointer (some ⟨E, 0, none⟩), .int .i64 n] w fun e w' => e = .returned (.bool (decide (n ≤ r.left))) ∧ XOk n0 base E fs cm (takeX r n) M F w' ∧ Below base w w' := by
  have hlf := h.lf
  have x1 := h.sq.cell 1 _ rfl
  have xf := h.sq.fro 1
  by_cases hlt : r.left < n
  · have d1 : decide (n > r.left) = true := decide_eq_true (by omega)
    have e1 : decide (n ≤ r.left) = false := decide_eq_false (by omega)
    have hb : Below base w (w.setCell ⟨E, 1, none⟩ (.int .i64 0)) := (Below.refl base w).setCell (p := ⟨E, 1, none⟩) h.sq.bE _
    have hx : XOk n0 base E fs cm { r with left := 0 } M F (w.setCell ⟨E, 1, none⟩ (.int .i64 0)) := h.re (h.sq.field 1 _) hb (by show (0 : Int) ≤ 0 ∧ (0 : Int) ≤ _; omega) rfl rfl rfl rfl rfl rfl rfl rfl
    have hS := stop_c hx 0 0
    have et : takeX r n = stopX { r with left := 0 } 0 0 := by unfold takeX; rw [if_pos hlt]
    rw [et, e1]
    have Hb := Lib.hid hb
    obtain ⟨left, hleft⟩ : ∃ left, left = r.left := ⟨_, rfl⟩
    rw [← hleft] at x1 d1
    clear h hlf hx hb hlt e1 et hleft
    go_enter Try.func77, Try.ntmps77
    go_wp2_with (go_at_call 101; refine hS.mono ?_; rintro e w1 ⟨rfl, h1, h2⟩; have H1 := Lib.hid h1; have H2 := Lib.hid h2; clear h1 h2 hS)
    go_ret
    exact ⟨rfl, H1.out, Hb.out.trans H2.out⟩
  · have d1 : decide (n > r.left) = false := decide_eq_false (by omega)
    have e1 : decide (n ≤ r.left) = true := decide_eq_true (by omega)
    have hb : Below base w (w.setCell ⟨E, 1, none⟩ (.int .i64 (r.left - n))) := (Below.refl base w).setCell (p := ⟨E, 1, none⟩) h.sq.bE _
    have hx : XOk n0 base E fs cm { r with left := r.left - n } M F (w.setCell ⟨E, 1, none⟩ (.int .i64 (r.left - n))) := h.re (h.sq.field 1 _) hb (by show 0 ≤ r.left - n ∧ r.left - n ≤ _; omega) rfl rfl rfl rfl rfl rfl rfl rfl
    have et : takeX r n = { r with left := r.left - n } := by unfold takeX; rw [if_neg hlt]
    rw [et, e1]
    have Hb := Lib.hid hb
    have Hx := Lib.hid hx
    have hwr : wrap64 (r.left - n) = r.left - n := IntWalk.wrap64_in _ (by omega)
    clear h hx hb hlt e1 et
    generalize r.left = left at *
    obtain ⟨X, hX⟩ : ∃ X, X = w.setCell ⟨E, 1, none⟩ (.int .i64 (left - n)) := ⟨_, rfl⟩
    rw [← hX] at Hx Hb
    have HX := Lib.hid hX
    clear hX
    go_enter Try.func77, Try.ntmps77
    go_wp2
    first | rw [← HX.out] | (rw [hwr, ← HX.out])
    go_ret
    exact ⟨rfl, Hx.out, Hb.out⟩
set_option maxRecDepth 100000 in
set_option maxHeartbeats 4000000 in
theorem enter_c (h : XOk n0 base E fs cm r M F w) (which args : Nat) : Calls Try.prog 48 #[.pointer (some ⟨E, 0, none⟩), .int .i64 (which : Int), .int .i64 (args : Int)] w fun e w' => e = .returned (.tuple #[]) ∧ XOk n0 base E fs cm (enterX r which args) M F w' ∧ Below base w w' := by
  have s1 := h.sq.field 11 (.int .i64 (which : Int))
  have s2 := s1.field 12 (.int .i64 ((0 : Nat) : Int))
  have s3 := s2.field 13 (.int .i64 ((0 : Nat) : Int))
  have s4 := s3.field 14 (.int .i64 (args : Int))
  have s5 := s4.field 15 (.int .i64 (r.kept.length : Int))
  have x18 := h.sq.cell 18 _ rfl
  have x11 := h.sq.cell 11 _ rfl
  have x12 := h.sq.cell 12 _ rfl
  have x13 := h.sq.cell 13 _ rfl
  have x14 := h.sq.cell 14 _ rfl
  have x15 := h.sq.cell 15 _ rfl
  have xf := h.sq.fro
  obtain ⟨X, hX⟩ : ∃ X, X = ((((w.setCell ⟨E, 11, none⟩ (.int .i64 (which : Int))).setCell ⟨E, 12, none⟩ (.int .i64 ((0 : Nat) : Int))).setCell ⟨E, 13, none⟩ (.int .i64 ((0 : Nat) : Int))).setCell ⟨E, 14, none⟩ (.int .i64 (args : Int))).setCell ⟨E, 15, none⟩ (.int .i64 (r.kept.length : Int)) := ⟨_, rfl⟩
  have hb : Below base w X := by
    rw [hX]
    exact (((((Below.refl base w).setCell (p := ⟨E, 11, none⟩) h.sq.bE _).setCell (p := ⟨E, 12, none⟩) h.sq.bE _).setCell (p := ⟨E, 13, none⟩) h.sq.bE _).setCell (p := ⟨E, 14, none⟩) h.sq.bE _).setCell (p := ⟨E, 15, none⟩) h.sq.bE _
  rw [← hX] at s5
  have hx : XOk n0 base E fs cm (enterX r which args) M F X := h.re s5 hb h.lf rfl rfl rfl rfl rfl rfl rfl rfl
  have hX' : X = ((((w.setCell ⟨E, 11, none⟩ (.int .i64 (which : Int))).setCell ⟨E, 12, none⟩ (.int .i64 0)).setCell ⟨E, 13, none⟩ (.int .i64 0)).setCell ⟨E, 14, none⟩ (.int .i64 (args : Int))).setCell ⟨E, 15, none⟩ (.int .i64 (r.kept.length : Int)) := hX
  have HX := Lib.hid hX'
  have Hx := Lib.hid hx
  have Hb := Lib.hid hb
  clear h s1 s2 s3 s4 s5 hx hb hX hX'
  go_enter Try.func48, Try.ntmps48
  go_wp2
  rw [← HX.out]
  try simp only [Exit.inBlock, Exit.then]
  refine bodyPost_end (results_none rfl _ _ _) rfl ?_
  exact ⟨rfl, Hx.out, Hb.out⟩
theorem blkX_some {fs : List SF} {c : XC} {k : SB} (h : blkX fs c = some k) : ∃ f, fs[c.which]? = some f ∧ f.blocks[c.block]? = some k := by
  unfold blkX at h
  rw [Option.bind_eq_some_iff] at h
  exact h
set_option maxRecDepth 100000 in
set_option maxHeartbeats 4000000 in
theorem list_c (h : XOk n0 base E fs cm r M F w) (k : SB) (hk : blkX fs r.now = some k) : Calls Try.prog 78 #[.pointer (some ⟨E, 0, none⟩)] w fun e w' => ∃ lA lc, e = .returned (.slice lA k.list.length lc) ∧ GNs n0 w (.slice lA k.list.length lc) k.list ∧ Below w.heap.size w w' := by
  obtain ⟨f, hf, hkb⟩ := blkX_some hk
  obtain ⟨fb, fv, hfA, hi, -, c4, -, -, -, hbs, -, hbb⟩ := h.fn_at hf
  have hbl : r.now.block < f.blocks.length := (List.getElem?_eq_some_iff.mp hkb).1
  have hke : f.blocks[r.now.block] = k := (List.getElem?_eq_some_iff.mp hkb).2
  obtain ⟨bA, bc, hbv, -⟩ := id hbs
  rw [hbv] at hbs c4
  obtain ⟨gb, o, lA, lc, pA, pc, tA, tc, rfl, -, k0, -, -, -, -, hg, -, -⟩ := hbs.at hbl
  rw [hke] at k0 hg
  have x10 := h.sq.cell 10 _ rfl
  have x11 := h.sq.cell 11 _ rfl
  have x12 := h.sq.cell 12 _ rfl
  rw [hfA] at x10
  have hfb := h.lb
  have Hg := Lib.hid hg
  have hb : Below w.heap.size w w.drew := (Below.refl _ _).drew
  have Hb := Lib.hid hb
  clear h hk hf hfA hkb hke hbv hbs hg hb
  generalize r.now.which = i at *
  generalize r.now.block = b at *
  generalize fs.length = fn at *
  generalize k.list.length = ln at *
  generalize f.blocks.length = bn at *
  go_enter Try.func78, Try.ntmps78
  go_upto_region 1 with fail
  go_still_tail 21, (by kernel_rfl)
  change wpList _ _ _ _ _ w.drew
  go_wp2
  go_ret
  exact ⟨_, _, rfl, Hg.out, Hb.out⟩
end
end Go.Proofs.Ytagagpappjkgbaa
